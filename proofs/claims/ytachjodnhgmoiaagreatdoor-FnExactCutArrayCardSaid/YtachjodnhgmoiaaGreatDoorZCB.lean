/- 18 texts in one: MkImpl Told MkS0 SNuM IsArr Fold LvText FoldU FoldV Shp Fil LayRd RowsT Rows2 AnyS FUP TextS SlMax. -/
import Derived.Test.YtachjodnhgmoiaaGreatDoorZCA
import Derived.Test.YtachjodnhgmoiaaGreatDoorStrs0
import Derived.Test.YtachjodnhgmoiaaGreatDoorShelf
import Derived.Deep.AppendLies
import Derived.Test.YtachjodnhgmoiaaGreatDoorFam
import Derived.Test.YtachjodnhgmoiaaGreatDoorLevels
import Derived.Test.YtachjodnhgmoiaaGreatDoorLayMem
import Derived.Test.YtachjodnhgmoiaaGreatDoorAside
import Derived.Test.YtachjodnhgmoiaaGreatDoorSeg
import Derived.Test.YtachjodnhgmoiaaGreatDoorRowPush
import Derived.RangeFuncBox
import Derived.Test.YtachjodnhgmoiaaGreatDoorIntC
namespace Go.Proofs.YtachjodnhgmoiaaGreatDoor
/- MkImpl -/
section
open Go.RowKit

/-- Are the parts such that there is an array? -/
def mkOk (ss : List ByteArray) (n : Int) : Bool := decide (1 ≤ n ∧ n ≤ 3) && (ss.all fun s => isArr s (n - 1)) && decide (2 + (ss.length - 1) + tot ss ≤ 400)
/-- The text of the array. -/
def mkText (ss : List ByteArray) : List UInt8 := 91 :: (Lib.join (ss.map (·.data.toList)) [44] ++ [93])

/-- How MakeArray ends. -/
def MkPost (ss : List ByteArray) (n : Int) (w : World) (e : Ending) (w' : World) : Prop :=
  w.grownBy w' none ∧ ∃ t : ByteArray, e = .returned (.tuple #[.string t, .bool (mkOk ss n)]) ∧ t.data.toList = if mkOk ss n = true then mkText ss else []
theorem mk_no {ss : List ByteArray} {n : Int} {w w' : World} {e : Ending} (h : mkOk ss n = false) (hg : w.grownBy w' none) (he : e = .returned (.tuple #[.string ⟨#[]⟩, .bool false])) : MkPost ss n w e w' :=
  ⟨hg, ⟨#[]⟩, by rw [he, h], by rw [h]; rfl⟩
theorem mk_yes {ss : List ByteArray} {n : Int} {w w' : World} {e : Ending} {t : ByteArray} (h : mkOk ss n = true) (hg : w.grownBy w' none) (he : e = .returned (.tuple #[.string t, .bool true])) (ht : t.data.toList = mkText ss) : MkPost ss n w e w' :=
  ⟨hg, t, by rw [he, h], by rw [h, ht]; rfl⟩

theorem mk_range {ss : List ByteArray} {n : Int} (h : ¬ (1 ≤ n ∧ n ≤ 3)) : mkOk ss n = false := by unfold mkOk; simp [h]
theorem mk_part {ss : List ByteArray} {n : Int} {j : Nat} {s : ByteArray} (hj : ss[j]? = some s) (h : isArr s (n - 1) = false) : mkOk ss n = false := by
  unfold mkOk
  have : (ss.all fun s => isArr s (n - 1)) = false := by
    rw [List.all_eq_false]
    exact ⟨s, List.mem_of_getElem? hj, by simp [h]⟩
  simp [this]
theorem mk_long {ss : List ByteArray} {n : Int} (h : 400 < 2 + (ss.length - 1) + tot ss) : mkOk ss n = false := by unfold mkOk; simp; omega
theorem mk_all {ss : List ByteArray} {n : Int} (h1 : 1 ≤ n ∧ n ≤ 3) (h2 : ∀ s ∈ ss, isArr s (n - 1) = true) (h3 : 2 + (ss.length - 1) + tot ss ≤ 400) : mkOk ss n = true := by
  unfold mkOk
  have : (ss.all fun s => isArr s (n - 1)) = true := List.all_eq_true.2 h2
  simp [this, h1]
  omega
theorem tot_take_le (ss : List ByteArray) (j : Nat) : tot (ss.take j) ≤ tot ss := by
  have e : ss.take j ++ ss.drop j = ss := List.take_append_drop j ss
  have := tot_append (ss.take j) (ss.drop j)
  rw [e] at this
  omega
theorem tail_len : ∀ (l : List ByteArray), (Lib.joinTail [44] (l.map (·.data.toList))).length = tot l + l.length
  | [] => rfl
  | s :: l => by
    have h := tail_len l
    have hs : s.data.toList.length = s.size := by rw [Array.length_toList]; rfl
    simp only [Lib.joinTail, List.map_cons, List.flatten_cons, List.length_append, List.length_cons, List.length_nil, tot] at h ⊢
    omega
theorem join_len : ∀ (ss : List ByteArray), (Lib.join (ss.map (·.data.toList)) [44]).length = tot ss + (ss.length - 1)
  | [] => rfl
  | s :: l => by
    have h := tail_len l
    have hs : s.data.toList.length = s.size := by rw [Array.length_toList]; rfl
    rw [List.map_cons, Lib.join_cons, List.length_append, h]
    simp only [tot, List.length_cons]
    omega

set_option maxHeartbeats 400000 in
theorem mkimpl_any (A : Option Addr) (c : Nat) (n : Int) (ss : List ByteArray) (w : World) (h : Strs w A ss) (hlen : ss.length ≤ 1048576) (htot : tot ss ≤ 1048576) (hc : ss.length ≤ c) :
    Calls Tryz.prog 64 #[.slice A ss.length c, .int .i64 n] w (MkPost ss n w) := by
  have HS := Lib.hid h
  obtain ⟨N, hN⟩ : ∃ N, ss.length = N := ⟨_, rfl⟩
  have HN := Lib.hid hN
  rw [hN] at hlen hc ⊢
  have HT := Lib.hid htot
  clear h hN htot
  by_cases hr : 1 ≤ n ∧ n ≤ 3
  · obtain ⟨hr1, hr2⟩ := hr
    go_enter Tryz.func64, Tryz.ntmps64
    go_wp2_with fail
    have wn : IntKind.i64.wrap (n - 1) = n - 1 := IntWalk.i64_in _ (by omega)
    have WN := Lib.hid wn
    clear wn
    go_loopw [22, 6] (fun i z wr => ∃ j x : Nat, j ≤ N ∧ i = .int .i64 j ∧ z = .int .i64 x ∧ x ≤ 3000000 ∧ Hid (x = 2 + (N - 1) + tot (ss.take j)) ∧ Hid (∀ s ∈ ss.take j, isArr s (n - 1) = true) ∧ Hid (0 < j → x ≤ 400) ∧ Hid (w.grownBy wr none)) (fun i _ _ => N - (intOf i).toNat)
    case atStart =>
      refine ⟨0, 2 + (N - 1), Nat.zero_le _, rfl, ?_, by omega, Lib.hid (by simp [tot]), Lib.hid (by simp), Lib.hid (fun h => by omega), Lib.hid (gr_refl _ _)⟩
      have e : (2 + max ((N : Int) - 1) 0) = ((2 + (N - 1) : Nat) : Int) := by omega
      rw [e]
    case round =>
      obtain ⟨j, x, hj, rfl, rfl, hx3, hx, hall, hxx, hgr⟩ := hrel
      by_cases hlt : j < N
      · obtain ⟨s, hs⟩ : ∃ s, ss[j]? = some s := ⟨_, List.getElem?_eq_getElem (by have := HN.out; omega)⟩
        obtain ⟨b, off, rfl, hb, hcc⟩ := (HS.out.grown hgr.out) (by have := HN.out; omega)
        have hcell := hcc j s hs
        have HST := Lib.hid hs
        have htj := tot_step hs
        have HTJ := Lib.hid htj
        have hssz : s.size ≤ 1048576 := by have := tot_take_le ss (j + 1); have := HT.out; omega
        clear hcc hs htj
        by_cases hbig : 400 < x + s.size
        · have hd : decide (400 < (x : Int) + (s.size : Int)) = true := decide_eq_true (by omega)
          go_wp2_with fail
          go_ret2
          refine mk_no (mk_long ?_) hgr.out rfl
          have h1 := hx.out
          have h2 := HTJ.out
          have h3 := tot_take_le ss (j + 1)
          have h4 := HN.out
          omega
        · have hd : decide (400 < (x : Int) + (s.size : Int)) = false := decide_eq_false (by omega)
          have HV := Lib.hid (fun w => valid_impl s (n - 1) w)
          obtain ⟨bb, hbb⟩ : ∃ bb, isArr s (n - 1) = bb := ⟨_, rfl⟩
          rw [hbb] at HV
          have HBB := Lib.hid hbb
          clear hbb
          go_wp2_with fail
          refine (HV.out _).mono ?_
          rintro e w5 ⟨rfl, hg5⟩
          have HG5 := Lib.hid (hgr.out.trans hg5)
          clear hg5 hd
          cases bb
          · go_wp2_with fail
            go_ret2
            exact mk_no (mk_part HST.out HBB.out) HG5.out rfl
          · go_wp2_with fail
            go_roundw
            case rel =>
              refine ⟨j + 1, x + s.size, by omega, by go_num, by go_num, by omega, Lib.hid ?_, Lib.hid ?_, Lib.hid (fun _ => by omega), HG5⟩
              · rw [HTJ.out, hx.out]; omega
              · intro s' hs'
                rw [List.take_add_one, HST.out] at hs'
                rcases List.mem_append.1 hs' with h | h
                · exact hall.out s' h
                · simp at h; rw [h]; exact HBB.out
            case measure => simp [intOf]; omega
      · have hjn : j = N := by omega
        have HJ := Lib.hid hjn
        have ht : ss.take j = ss := List.take_of_length_le (by have := HN.out; omega)
        have hx4 : x ≤ 400 := by
          rcases Nat.eq_zero_or_pos j with h0 | h0
          · have := hx.out
            rw [h0] at this
            simp [tot] at this
            omega
          · exact hxx.out h0
        have hok : mkOk ss n = true := by
          refine mk_all ⟨hr1, hr2⟩ ?_ ?_
          · have := hall.out; rw [ht] at this; exact this
          · have := hx.out; rw [ht] at this; have := HN.out; omega
        have hjl := join_len ss
        have hjl2 : (Lib.join (ss.map (·.data.toList)) [44]).length ≤ 400 := by
          have h1 := hx.out
          rw [ht] at h1
          have := HN.out
          omega
        have HC : Hid (∀ A', A = A' → Calls Tryz.prog 85 #[.slice A' N c, .string ⟨#[44]⟩] wr fun e w' => e = .returned (.string ⟨(Lib.join (ss.map (·.data.toList)) [44]).toArray⟩) ∧ wr.grownBy w' none) := by
          rintro A' rfl
          rcases Nat.eq_zero_or_pos N with h0 | h0
          · subst h0
            have hnil : ss = [] := List.eq_nil_of_length_eq_zero HN.out
            rw [hnil]
            exact (Tryz.strings_Join_none A c ⟨#[44]⟩ wr).mono fun e w' ⟨he, hw⟩ => ⟨he, hw ▸ gr_refl _ _⟩
          · obtain ⟨b, off, rfl, hb, hcc⟩ := (HS.out.grown hgr.out) (by have := HN.out; omega)
            have hJ := Tryz.strings_Join b off c ss ⟨#[44]⟩ wr hcc hb (by have := HN.out; omega) (by have := HN.out; omega) (by show (Lib.join (ss.map (·.data.toList)) [44]).length ≤ _; omega)
            rw [HN.out] at hJ
            exact hJ.mono fun e w' ⟨he, hw⟩ => ⟨he, hw.os, hw.tape, hw.output, hw.size, fun k hk _ => hw.block k hk⟩
        obtain ⟨tj, htj⟩ : ∃ tj : ByteArray, tj = ⟨(Lib.join (ss.map (·.data.toList)) [44]).toArray⟩ := ⟨_, rfl⟩
        rw [← htj] at HC
        have hts : tj.size ≤ 400 := by rw [htj]; show (List.toArray _).size ≤ 400; simpa using hjl2
        have HOK := Lib.hid hok
        have HTX := Lib.hid (show tj.data.toList = Lib.join (ss.map (·.data.toList)) [44] from by rw [htj])
        clear hjn ht hok htj hjl hjl2
        go_wp2_with fail
        refine (HC.out _ rfl).mono ?_
        rintro e w6 ⟨rfl, hg6⟩
        have HG6 := Lib.hid (hgr.out.trans hg6)
        clear hg6
        go_wp2_with fail
        go_ret2
        refine mk_yes HOK.out HG6.out rfl ?_
        simp [ByteArray.data_append, HTX.out, mkText]
  · have HR := Lib.hid hr
    by_cases hr1 : n < 1
    · clear hr
      go_enter Tryz.func64, Tryz.ntmps64
      go_wp2_with fail
      go_ret2
      exact mk_no (mk_range HR.out) (gr_refl _ _) rfl
    · have hr2 : 3 < n := by omega
      clear hr
      go_enter Tryz.func64, Tryz.ntmps64
      go_wp2_with fail
      go_ret2
      exact mk_no (mk_range HR.out) (gr_refl _ _) rfl
end

/- Told -/
section
open Go.RowKit

/-- How l1Told ends. -/
def ToldPost (l : List UInt8) (w : World) (e : Ending) (w' : World) : Prop := w.grownBy w' none ∧ ∃ u : ByteArray, e = .returned (.tuple #[.string u, .bool (decide (l.length ≤ 400))]) ∧ u.data.toList = if l.length ≤ 400 then l else []

set_option maxHeartbeats 400000 in
theorem told_any (S : Nat → Prop) (d : Nat) (n : Int) (t : T d) (m : Int) (A : Option Addr) (k c : Nat) (w : World) (hn : n = d) (hd : d ≤ 1000) (h : SNd w S d t (m, .slice A k c)) (ht : (text d t).length ≤ 1000000000) :
    Calls Tryz.prog 27 #[.agg #[.int .i64 m, .slice A k c], .int .i64 n] w (ToldPost (text d t) w) := by
  have h1 : SNd (w.alloc (.cells #[.int .i64 m, .slice A k c] 50)) S d t (m, .slice A k c) := SNd.keep (fun b _ hb => Below.heap_alloc w _ b hb) (fun b hb _ => hb) d t _ h
  have HT := Lib.hid (stext_any S d n t m A k c _ hn hd h1 ht)
  have HL := Lib.hid ht
  clear h h1 hn hd ht
  go_enter Tryz.func27, Tryz.ntmps27
  go_wp2_with fail
  refine HT.out.mono ?_
  rintro e w1 ⟨⟨s, rfl, hs⟩, hg⟩
  have HG := Lib.hid ((World.grownBy_alloc w (.cells #[.int .i64 m, .slice A k c] 50) none).trans hg)
  have hsz : s.size = (text d t).length := by rw [← hs, Array.length_toList]; rfl
  have HS := Lib.hid hs
  have HSZ := Lib.hid hsz
  clear hs hg hsz
  by_cases hb : 400 < s.size
  · have hd2 : decide (400 < (s.size : Int)) = true := decide_eq_true (by omega)
    go_wp2_with fail
    go_ret2
    have h2 := HSZ.out
    refine ⟨HG.out, ⟨#[]⟩, ?_, ?_⟩
    · rw [decide_eq_false (by omega)]; rfl
    · rw [if_neg (by omega)]
  · have hd2 : decide (400 < (s.size : Int)) = false := decide_eq_false (by omega)
    go_wp2_with fail
    go_ret2
    have h2 := HSZ.out
    refine ⟨HG.out, s, ?_, ?_⟩
    · rw [decide_eq_true (by omega)]; rfl
    · rw [if_pos (by omega)]; exact HS.out
end

/- MkS0 -/
section
open Go.RowKit

theorem readN_bytes {s : ByteArray} {d : Nat} {t : T d} (h : readN s d = some t) : s.data.toList = text d t := by
  unfold readN at h
  split at h
  · cases h
  · rename_i t' q hn
    split at h
    · rename_i hq
      cases h
      rw [← sub_all s, ← hq]
      exact sub_node s d 0 t q hn
    · cases h

/-- The parts' arrays, in order. -/
def Rds (d : Nat) (ss : List ByteArray) (ts : List (T d)) : Prop := All2 (fun s t => readN s d = some t) ss ts

theorem rds_tail {d : Nat} : ∀ {ss : List ByteArray} {ts : List (T d)}, Rds d ss ts → Lib.joinTail [44] (ss.map (·.data.toList)) = ts.flatMap (fun x => 44 :: text d x)
  | [], [], _ => rfl
  | s :: ss, t :: ts, ⟨h1, h2⟩ => by
    have ih := rds_tail h2
    unfold Lib.joinTail at ih ⊢
    simp only [List.map_cons, List.flatten_cons, List.flatMap_cons, ih, readN_bytes h1]
    rfl
  | [], _ :: _, h => h.elim
  | _ :: _, [], h => h.elim
theorem rds_text {d : Nat} : ∀ {ss : List ByteArray} {ts : List (T d)}, Rds d ss ts → text (d + 1) ts = mkText ss
  | [], [], _ => by rw [text_succ]; rfl
  | s :: ss, t :: ts, ⟨h1, h2⟩ => by
    rw [text_succ]
    unfold mkText
    rw [List.map_cons, Lib.join_cons, rds_tail h2, readN_bytes h1]
    rfl
  | [], _ :: _, h => h.elim
  | _ :: _, [], h => h.elim

theorem mkText_len (ss : List ByteArray) : (mkText ss).length = 2 + (ss.length - 1) + tot ss := by
  unfold mkText
  have := join_len ss
  simp only [List.length_cons, List.length_append, List.length_nil]
  omega

theorem sread_false {s : ByteArray} {m : Int} (h : isArr s m = false) (w : World) : Calls Tryz.prog 25 #[.string s, .int .i64 m] w (SReadNo w) := by
  by_cases hr : 0 ≤ m ∧ m ≤ 3 ∧ s.size ≤ 400
  · have hn : readN s m.toNat = none := by
      unfold isArr at h
      simp [hr] at h
      cases hd : readN s m.toNat with
      | none => rfl
      | some t => rw [hd] at h; simp at h
    have := sread_in m m.toNat s w (by omega) hr.1 hr.2.1 hr.2.2
    refine this.mono fun e w' hp => ?_
    unfold SReadPost at hp
    rw [hn] at hp
    exact hp
  · exact sread_out m s w (by omega)

/-- How l1Read ends with an array. -/
def SReadYes (d : Nat) (t : T d) (w : World) (e : Ending) (w' : World) : Prop := ∃ m A k c, e = .returned (.tuple #[.agg #[.int .i64 m, .slice A k c], .bool true]) ∧ w.grownBy w' none ∧ SNd w' (fun b => w.heap.size ≤ b) d t (m, .slice A k c)
theorem sread_true {s : ByteArray} {m : Int} {d : Nat} (hm : m = d) (h : isArr s m = true) : ∃ t, readN s d = some t ∧ ∀ w, Calls Tryz.prog 25 #[.string s, .int .i64 m] w (SReadYes d t w) := by
  unfold isArr at h
  simp only [Bool.and_eq_true, decide_eq_true_eq] at h
  obtain ⟨⟨h0, h3, hs⟩, h⟩ := h
  have hd : m.toNat = d := by omega
  rw [hd] at h
  obtain ⟨t, ht⟩ := Option.isSome_iff_exists.1 h
  refine ⟨t, ht, fun w => (sread_in m d s w hm h0 h3 hs).mono fun e w' hp => ?_⟩
  unfold SReadPost at hp
  rw [ht] at hp
  obtain ⟨m2, sv, he, ⟨A, k, c, rfl⟩, hg, hnd⟩ := hp
  exact ⟨m2, A, k, c, he, hg, hnd⟩

/-- What holds of the memory while MakeArray gathers nodes. -/
structure MLf (w wr : World) (sv : Value) (xs : List (Int × Value)) : Prop where
  gr : w.grownBy wr none
  size : w.heap.size + 2 ≤ wr.heap.size
  out : Two wr (w.heap.size + 1) (.int .i64 0) sv
  own : wr.ownsRow w.heap.size 50 2 sv xs.length (flat2 xs)
  ne : sv.ownBlock ≠ some (w.heap.size + 1)
def MAll (d : Nat) (w wr : World) (sv : Value) (ts : List (T d)) (xs : List (Int × Value)) : Prop := All2 (SNd wr (fun b => w.heap.size + 2 ≤ b ∧ sv.ownBlock ≠ some b) d) ts xs

theorem mlf_start (w : World) : MLf w ((w.alloc (.cells #[] 50)).alloc (.cells #[.int .i64 0, .slice (some ⟨w.heap.size, 0, none⟩) 0 0] 50)) (.slice (some ⟨w.heap.size, 0, none⟩) 0 0) [] := by
  refine ⟨(World.grownBy_alloc _ _ _).trans (World.grownBy_alloc _ _ _), by simp, two_new _ _ _ (by simp), ?_, by simp [Value.ownBlock]⟩
  exact (World.ownsRow_made (base := w.heap.size) (e := 50) (size := 2) w #[] 0 (by omega) (by simp) (by simp)).alloc _

section
variable {d : Nat} {w wr : World} {sv : Value} {ts : List (T d)} {xs : List (Int × Value)}
theorem MLf.kept (h : MLf w wr sv xs) {we : World} (hg : wr.grownBy we none) : MLf w we sv xs :=
  ⟨h.gr.trans hg, Nat.le_trans h.size hg.size, h.out.grown hg (by simp), own_keep h.own (fun k hk => hg.block k (h.own.lt k hk).2 (by simp)), h.ne⟩
theorem MAll.kept (h : MAll d w wr sv ts xs) {we : World} (hg : wr.grownBy we none) : MAll d w we sv ts xs :=
  All2.mono (SNd.keep (fun b _ hb => hg.block b hb (by simp)) (fun b hb _ => hb) d) ts xs h
/-- A node more: read (world we), boxed and appended (world w2), the variable written. -/
theorem MLf.step (h : MLf w wr sv xs) {m : Int} {v : Value} {w2 : World} {gg cap : Nat}
    (hown : w2.ownsRow w.heap.size 50 2 (.slice (some ⟨gg, 0, none⟩) (xs.length + 1) cap) (xs.length + 1) (flat2 xs ++ [.int .i64 m, v])) (hg2 : wr.grownBy w2 sv.ownBlock)
    (hat : sv.ownBlock = some gg ∨ wr.heap.size ≤ gg) :
    MLf w (w2.setCell ⟨w.heap.size + 1, 1, none⟩ (.slice (some ⟨gg, 0, none⟩) (xs.length + 1) cap)) (.slice (some ⟨gg, 0, none⟩) (xs.length + 1) cap) (xs ++ [(m, v)]) := by
  have hsw := h.gr.size
  have hs2 := hg2.size
  have hs3 := h.size
  have hlt := h.own.lt
  have hgg : gg ≠ w.heap.size + 1 ∧ w.heap.size ≤ gg := by
    rcases hat with e | e
    · exact ⟨fun e2 => h.ne (by rw [e, e2]), (hlt gg e).1⟩
    · exact ⟨by omega, by omega⟩
  have hg3 : w.grownBy w2 none := ⟨hg2.os.trans h.gr.os, hg2.tape.trans h.gr.tape, hg2.output.trans h.gr.output, Nat.le_trans h.gr.size hg2.size, fun k hk hne =>
    (hg2.block k (Nat.lt_of_lt_of_le hk h.gr.size) (fun e => by have := (hlt k e.symm).1; omega)).trans (h.gr.block k hk hne)⟩
  refine ⟨gr_set_new hg3 (by omega) _, by have := (gr_set w2 (w.heap.size + 1) 1 (.slice (some ⟨gg, 0, none⟩) (xs.length + 1) cap)).size; omega, ?_, ?_, ?_⟩
  · exact (h.out.grown hg2 (fun e => h.ne e.symm)).set1 _
  · rw [flat2_snoc, List.length_append]
    exact own_keep hown (fun k hk => Below.heap_setCell _ _ _ _ (by simp [Value.ownBlock] at hk; subst hk; exact hgg.1))
  · simpa [Value.ownBlock] using hgg.1
theorem MAll.step (hall : MAll d w wr sv ts xs) {m : Int} {v : Value} {t : T d} {w2 : World} {gg cap lo : Nat} (hlo : w.heap.size + 2 ≤ lo)
    (hnd : SNd wr (fun b => lo ≤ b ∧ sv.ownBlock ≠ some b) d t (m, v)) (hg2 : wr.grownBy w2 sv.ownBlock) (hat : sv.ownBlock = some gg ∨ wr.heap.size ≤ gg) :
    MAll d w (w2.setCell ⟨w.heap.size + 1, 1, none⟩ (.slice (some ⟨gg, 0, none⟩) (xs.length + 1) cap)) (.slice (some ⟨gg, 0, none⟩) (xs.length + 1) cap) (ts ++ [t]) (xs ++ [(m, v)]) := by
  have hset : ∀ b, w.heap.size + 2 ≤ b → (w2.setCell ⟨w.heap.size + 1, 1, none⟩ (.slice (some ⟨gg, 0, none⟩) (xs.length + 1) cap)).heap[b]? = w2.heap[b]? := fun b hb => Below.heap_setCell _ _ _ _ (by show b ≠ w.heap.size + 1; omega)
  have hne : ∀ b, sv.ownBlock ≠ some b → b < wr.heap.size → (Value.slice (some ⟨gg, 0, none⟩) (xs.length + 1) cap).ownBlock ≠ some b := by
    intro b hb hb2 e
    simp only [Value.ownBlock, Option.some.injEq] at e
    rcases hat with e2 | e2
    · exact hb (e2.trans (by rw [e]))
    · omega
  refine All2.snoc ?_ ts xs ?_
  · refine SNd.keep ?_ ?_ d t (m, v) hnd
    · rintro b ⟨hb1, hb2⟩ hb
      rw [hset b (by omega), hg2.block b hb (fun e => hb2 e.symm)]
    · rintro b ⟨hb1, hb2⟩ hb
      exact ⟨by omega, hne b hb2 hb⟩
  · refine All2.mono (SNd.keep ?_ ?_ d) ts xs hall
    · rintro b ⟨hb1, hb2⟩ hb
      rw [hset b hb1, hg2.block b hb (fun e => hb2 e.symm)]
    · rintro b ⟨hb1, hb2⟩ hb
      exact ⟨hb1, hne b hb2 hb⟩
end

theorem rds_snoc {d j : Nat} {ss : List ByteArray} {ts : List (T d)} {s : ByteArray} {t : T d} (h : Rds d (ss.take j) ts) (hj : ss[j]? = some s) (ht : readN s d = some t) : Rds d (ss.take (j + 1)) (ts ++ [t]) := by
  rw [List.take_add_one, hj]
  exact All2.snoc (R := fun s t => readN s d = some t) ht _ _ h

theorem infoM : (Tryz.prog.info? 50).map (fun i => (i.zero, i.size, i.bytes)) = some (some (.agg #[.int .i64 0, .slice none 0 0]), 2, 32) := by kernel_rfl
end

/- SNuM -/
section
open Go.RowKit

/-- All numbers of an array. -/
def nums : (d : Nat) → T d → List Int
  | 0, n => [((show Nat from n : Nat) : Int)]
  | d + 1, ts => (show List (T d) from ts).flatMap (nums d)
theorem nums_succ (d : Nat) (ts : List (T d)) : nums (d + 1) ts = ts.flatMap (nums d) := rfl

theorem gr_row {w w1 w2 : World} {row : Option Nat} (h : w.grownBy w1 none) (h2 : w1.grownBy w2 row) (hr : ∀ k, row = some k → w.heap.size ≤ k) : w.grownBy w2 none :=
  ⟨h2.os.trans h.os, h2.tape.trans h.tape, h2.output.trans h.output, Nat.le_trans h.size h2.size, fun k hk hne => (h2.block k (Nat.lt_of_lt_of_le hk h.size) (fun e => by have := hr k e.symm; omega)).trans (h.block k hk hne)⟩

/-- A new row of ints. -/
def NewInts (zs : List Int) (w : World) (v : Value) (w' : World) : Prop := ∃ g c, v = .slice (some ⟨g, 0, none⟩) zs.length c ∧ w.grownBy w' none ∧ w'.ownsRow w.heap.size 3 1 (.slice (some ⟨g, 0, none⟩) zs.length c) zs.length (zs.map (Value.int .i64))
def NumsPost (zs : List Int) (w : World) (e : Ending) (w' : World) : Prop := ∃ v, e = .returned v ∧ NewInts zs w v w'

theorem infoI : (Tryz.prog.info? 3).map (fun i => (i.zero, i.size, i.bytes)) = some (some (.int .i64 0), 1, 8) := by kernel_rfl

set_option maxHeartbeats 400000 in
theorem snums0 (t : T 0) (m : Int) (A : Option Addr) (k c : Nat) (S : Nat → Prop) (w : World) (h : SNd w S 0 t (m, .slice A k c)) :
    Calls Tryz.prog 26 #[.agg #[.int .i64 m, .slice A k c], .int .i64 0] w (NumsPost (nums 0 t) w) := by
  have hm : [m] = nums 0 t := by show [m] = [((show Nat from t : Nat) : Int)]; rw [← h.1]
  rw [← hm]
  clear hm h
  go_enter Tryz.func26, Tryz.ntmps26
  go_wp2_with fail
  go_ret
  refine ⟨_, rfl, w.heap.size + 1, 1, rfl, (World.grownBy_alloc _ _ _).trans (World.grownBy_alloc _ _ _), ?_⟩
  have := World.ownsRow_lit (base := w.heap.size) (e := 3) (size := 1) (w.alloc (.cells #[.int .i64 m, .slice A k c] 50)) #[.int .i64 m] 1 (by simp) (by simp [maxLen]) (by simp)
  simpa using this

set_option maxHeartbeats 1000000 in
theorem snumsS (d : Nat) (n : Int) (ts : List (T d)) (m : Int) (A : Option Addr) (k c : Nat) (S : Nat → Prop) (w : World) (h : SNd w S (d + 1) ts (m, .slice A k c)) (hn1 : 1 ≤ n) (hn2 : n ≤ 1000) (hl : (ts.flatMap (nums d)).length ≤ 1000000) (hk : k ≤ 1000000)
    (ih : ∀ (t : T d) (m : Int) (A : Option Addr) (k c : Nat) (w : World), t ∈ ts → SNd w S d t (m, .slice A k c) → Calls Tryz.prog 26 #[.agg #[.int .i64 m, .slice A k c], .int .i64 (n - 1)] w (NumsPost (nums d t) w)) :
    Calls Tryz.prog 26 #[.agg #[.int .i64 m, .slice A k c], .int .i64 n] w (NumsPost (nums (d + 1) ts) w) := by
  obtain ⟨i0, hi0, hz0, hz1, hz2⟩ := info_parts infoI
  obtain ⟨xs, ho, hS, ha⟩ := h
  obtain ⟨hkx, hkc, hrow⟩ := srow ho
  have HA := Lib.hid ha
  have HROW := Lib.hid hrow
  have HI := Lib.hid ih
  have HL := Lib.hid hl
  have HKX := Lib.hid hkx
  have HLEN := Lib.hid (All2.length ts xs ha)
  clear ho hS ha hrow ih hl hkx
  have e0 : (n == 0) = false := by rw [beq_eq_false_iff_ne]; omega
  go_enter Tryz.func26, Tryz.ntmps26
  go_wp2_with fail
  clear e0
  go_loopw [17, 5] (fun i u wr => ∃ (j q : Nat) (A1 : Option Addr) (c1 : Nat), j ≤ k ∧ i = .int .i64 j ∧ u = .slice A1 q c1 ∧ Hid (q = ((ts.take j).flatMap (nums d)).length) ∧ Hid (∃ g, A1 = some ⟨g, 0, none⟩) ∧ Hid (wr.ownsRow w.heap.size 3 1 (.slice A1 q c1) q (((ts.take j).flatMap (nums d)).map (Value.int .i64))) ∧ Hid (w.grownBy wr none)) (fun i _ _ => k - (intOf i).toNat)
  case atStart =>
    refine ⟨0, 0, some ⟨w.heap.size + 1, 0, none⟩, 0, Nat.zero_le _, rfl, rfl, Lib.hid (by simp), Lib.hid ⟨_, rfl⟩, Lib.hid ?_, Lib.hid ((World.grownBy_alloc _ _ _).trans (World.grownBy_alloc _ _ _))⟩
    have := World.ownsRow_made (base := w.heap.size) (e := 3) (size := 1) (w.alloc (.cells #[.int .i64 m, .slice A k c] 50)) #[] 0 (by simp) (by simp) (by simp)
    simpa using this
  case round =>
    obtain ⟨j, q, A1, c1, hj, rfl, rfl, hq, hg1, ho1, hgr⟩ := hrel
    by_cases hlt : j < k
    · obtain ⟨g, rfl, hgw, hcells⟩ := HROW.out (by omega)
      obtain ⟨t, x, htj, hxj, hr⟩ := All2.at_ (j := j) HA.out (by have := HKX.out; omega)
      have hx := hcells j x hxj
      obtain ⟨m2, sv2⟩ := x
      obtain ⟨A2, k2, c2, hsv⟩ := hr.form
      simp only at hsv hx
      subst hsv
      have h1 := hgr.out.cell hx.1 (by simp)
      have h2 := hgr.out.cell hx.2 (by simp)
      have HR := Lib.hid hr
      have HT := Lib.hid htj
      have HMEM := Lib.hid (List.mem_of_getElem? htj)
      clear hx hxj hr htj hcells
      have wn : IntKind.i64.wrap (n - 1) = n - 1 := IntWalk.i64_in _ (by omega)
      have HK := Lib.hid (SNd.keep (w' := wr.alloc (.cells #[.int .i64 m2, .slice A2 k2 c2] 50)) (fun b _ hb => ((hgr.out.trans (World.grownBy_alloc wr _ none)).block b hb (by simp))) (fun b hb _ => hb) d t _ HR.out)
      have hstep : (ts.take (j + 1)).flatMap (nums d) = (ts.take j).flatMap (nums d) ++ nums d t := by
        rw [List.take_add_one, HT.out, List.flatMap_append]; simp
      have hle : ((ts.take (j + 1)).flatMap (nums d)).length ≤ 1000000 := by
        have e : ts.take (j + 1) ++ ts.drop (j + 1) = ts := List.take_append_drop _ _
        have h3 := HL.out
        rw [← e, List.flatMap_append, List.length_append] at h3
        omega
      rw [hstep, List.length_append] at hle
      have HST := Lib.hid hstep
      have HLE := Lib.hid hle
      clear hstep hle
      go_wp2_with fail
      refine (HI.out t m2 A2 k2 c2 _ HMEM.out HK.out).mono ?_
      rintro e w5 ⟨v5, rfl, g5, c5, rfl, hg5, ho5⟩
      have hzs : w.heap.size ≤ w5.heap.size := Nat.le_trans hgr.out.size (Nat.le_trans (by simp) hg5.size)
      have HINT := Lib.hid (Ints.of_own ho5)
      have hga := (World.grownBy_alloc wr (.cells #[.int .i64 m2, .slice A2 k2 c2] 50) none).trans hg5
      have own6 := own_keep ho1.out (fun k hk => hga.block k (ho1.out.lt k hk).2 (by simp))
      have HGA := Lib.hid (hgr.out.trans hga)
      obtain ⟨ns, hns⟩ : ∃ ns, nums d t = ns := ⟨_, rfl⟩
      rw [hns] at HINT ho5 ⊢
      have hfl : q + ns.length ≤ 1000000 := by have h1 := HLE.out; have h2 := hq.out; rw [hns] at h1; omega
      have HNS := Lib.hid hns
      have hnew : ∀ (i : Nat) (u : Value), (ns.map (Value.int .i64))[i]? = some u → w5.cell? ((⟨g5, 0, none⟩ : Addr).add i) = some u := fun i u hu => ho5.cells (g := g5) rfl i u hu
      have HNEW := Lib.hid hnew
      clear hg5 ho5 hga hns hnew
      go_wp2_with (at_builtin; refine wpList_append_own_at _ rfl _ _ 25 rfl w.heap.size 3 i0 (.int .i64 0) 1 8 Tryz.underlying25 hi0 hz0 hz1 hz2 rfl (by decide) _ q _ rfl own6 ⟨g5, 0, none⟩ ns.length c5 (ns.map (Value.int .i64)) rfl ?c1 HNEW.out ?c2 ?c3 ?c4 ?c5 ?_)
      case c1 => simp
      case c2 => intro u hu; obtain ⟨z, _, rfl⟩ := List.mem_map.1 hu; rfl
      case c3 => simp only [maxLen]; omega
      case c4 => omega
      case c5 => exact hzs
      intro v8 w8 hown8 hg8 hnil8 hat8
      obtain ⟨g8, c8, rfl⟩ : ∃ g8 c8, v8 = .slice (some ⟨g8, 0, none⟩) (q + ns.length) c8 := by
        rcases hown8.2 with ⟨hv, _⟩ | ⟨g, cap, cur, hv, _⟩
        · obtain ⟨g1, rfl⟩ := hg1.out
          have := hnil8.1 hv
          simp at this
        · exact ⟨g, cap, hv⟩
      have HO8 := Lib.hid hown8
      have HG8 := Lib.hid (gr_row HGA.out hg8 (fun k hk => (own6.lt k hk).1))
      clear hown8 hg8 hnil8 hat8 own6
      go_wp2_with fail
      go_roundw
      case rel =>
        refine ⟨j + 1, q + ns.length, some ⟨g8, 0, none⟩, c8, by omega, by go_num, rfl, Lib.hid ?_, Lib.hid ⟨_, rfl⟩, Lib.hid ?_, HG8⟩
        · rw [HST.out, List.length_append, HNS.out, ← hq.out]
        · rw [HST.out, List.map_append, HNS.out]
          exact HO8.out
      case measure => simp [intOf]; omega
    · have hjn : j = k := by omega
      have HJ := Lib.hid hjn
      clear hjn
      obtain ⟨g1, rfl⟩ := hg1.out
      go_wp2_with fail
      go_ret
      have e : ts.take j = ts := List.take_of_length_le (by have h1 := HJ.out; have h2 := HKX.out; have h3 := HLEN.out; omega)
      have h1 := hq.out
      have h2 := ho1.out
      rw [e] at h1 h2
      rw [nums_succ]
      subst h1
      exact ⟨_, rfl, g1, c1, rfl, hgr.out, h2⟩

/-- No array holds more numbers, or parts, than its text has bytes. -/
theorem nums_text : ∀ (d : Nat) (t : T d), (nums d t).length ≤ (text d t).length
  | 0, t => dec_pos _
  | d + 1, ts => by
    have e : text (d + 1) ts = 91 :: (lst d ts ++ [93]) := text_succ d ts
    rw [e]
    have h : ∀ (l : List (T d)), (l.flatMap (nums d)).length ≤ (l.flatMap (fun x => 44 :: text d x)).length := by
      intro l
      induction l with
      | nil => simp
      | cons x l ih =>
        have := nums_text d x
        simp only [List.flatMap_cons, List.length_append, List.length_cons]
        omega
    have h2 : ((show List (T d) from ts).flatMap (nums d)).length ≤ (lst d ts).length := by
      cases ts with
      | nil => simp
      | cons x l =>
        have := nums_text d x
        have := h l
        show ((x :: l).flatMap (nums d)).length ≤ _
        simp only [lst, List.flatMap_cons, List.length_append]
        omega
    simp only [List.length_cons, List.length_append]
    exact Nat.le_trans (show (nums (d + 1) ts).length ≤ (lst d ts).length from h2) (by omega)
theorem text_mem {d : Nat} : ∀ {ts : List (T d)} {t : T d}, t ∈ ts → (text d t).length ≤ (lst d ts).length
  | [], t, h => by cases h
  | x :: l, t, h => by
    have hf : ∀ (l : List (T d)), t ∈ l → (text d t).length ≤ (l.flatMap (fun x => 44 :: text d x)).length := by
      intro l
      induction l with
      | nil => intro h; cases h
      | cons y l ih =>
        intro h
        simp only [List.flatMap_cons, List.length_append, List.length_cons]
        rcases List.mem_cons.1 h with e | e
        · subst e; omega
        · have := ih e; omega
    simp only [lst, List.length_append]
    rcases List.mem_cons.1 h with e | e
    · subst e; omega
    · have := hf l e; omega

theorem snums_any (S : Nat → Prop) : ∀ (d : Nat) (n : Int) (t : T d) (m : Int) (A : Option Addr) (k c : Nat) (w : World), n = d → d ≤ 1000 → SNd w S d t (m, .slice A k c) → (text d t).length ≤ 1000000 →
    Calls Tryz.prog 26 #[.agg #[.int .i64 m, .slice A k c], .int .i64 n] w (NumsPost (nums d t) w)
  | 0, n, t, m, A, k, c, w, hn, _, h, _ => by obtain rfl : n = 0 := hn; exact snums0 t m A k c S w h
  | d + 1, n, t, m, A, k, c, w, hn, hd, h, ht => by
    have hnt := nums_text (d + 1) t
    have e : text (d + 1) t = 91 :: (lst d t ++ [93]) := text_succ d t
    rw [e] at ht
    have hlst : (lst d t).length ≤ 1000000 := by simp at ht; omega
    obtain ⟨xs, ho, hS, ha⟩ := h
    have hk : k ≤ 1000000 := by
      have h1 := (srow ho).1
      have h2 := All2.length t xs ha
      have h3 := lst_ge d t
      omega
    refine snumsS d n t m A k c S w ⟨xs, ho, hS, ha⟩ (by omega) (by omega) ?_ hk (fun t' m A k c w hm h => snums_any S d (n - 1) t' m A k c w (by omega) (by omega) h ?_)
    · have : (nums (d + 1) t).length ≤ 1000000 := by rw [e] at hnt; exact Nat.le_trans hnt ht
      exact this
    · exact Nat.le_trans (text_mem hm) hlst
end

/- IsArr -/
section

/-- All numbers are below 10007. -/
def okT : (d : Nat) → T d → Prop
  | 0, n => (show Nat from n) < 10007
  | d + 1, ts => ∀ t ∈ (show List (T d) from ts), okT d t

/-- These bytes stand from a place on. -/
def Bts (s : ByteArray) (p : Nat) (l : List UInt8) : Prop := ∀ (i : Nat) (b : UInt8), l[i]? = some b → ba s (p + i) = (b.toNat : Int)
theorem Bts.left {s : ByteArray} {p : Nat} {l m : List UInt8} (h : Bts s p (l ++ m)) : Bts s p l := fun i b hb => h i b (by rw [List.getElem?_append_left (List.getElem?_eq_some_iff.1 hb).1]; exact hb)
theorem Bts.right {s : ByteArray} {p : Nat} {l m : List UInt8} (h : Bts s p (l ++ m)) : Bts s (p + l.length) m := fun i b hb => by
  rw [Nat.add_assoc]
  exact h _ b (by rw [List.getElem?_append_right (by omega), Nat.add_sub_cancel_left]; exact hb)
theorem Bts.head {s : ByteArray} {p : Nat} {b : UInt8} {l : List UInt8} (h : Bts s p (b :: l)) : ba s p = (b.toNat : Int) := h 0 b rfl
theorem Bts.tail {s : ByteArray} {p : Nat} {b : UInt8} {l : List UInt8} (h : Bts s p (b :: l)) : Bts s (p + 1) l := fun i c hc => by
  have := h (i + 1) c (by simpa using hc)
  rwa [show p + 1 + i = p + (i + 1) from by omega]
theorem Bts.le {s : ByteArray} {p : Nat} {l : List UInt8} (h : Bts s p l) (hl : l ≠ []) : p + l.length ≤ s.size := by
  have hp : 0 < l.length := List.length_pos_iff.2 hl
  have := h (l.length - 1) _ (List.getElem?_eq_getElem (by omega))
  have h2 := ba_lt (s := s) (p := p + (l.length - 1)) (by omega)
  omega

theorem dec_digit : ∀ (k n : Nat), n < 10 ^ (k + 1) → ∀ (i : Nat) (b : UInt8), (dec n)[i]? = some b → 48 ≤ b.toNat ∧ b.toNat ≤ 57 := by
  have one : ∀ m, m ≤ 9 → 48 ≤ (UInt8.ofNat (48 + m)).toNat ∧ (UInt8.ofNat (48 + m)).toNat ≤ 57 := fun m hm => by
    have : (UInt8.ofNat (48 + m)).toNat = 48 + m := by simp; omega
    omega
  intro k
  induction k with
  | zero =>
    intro n h i b hb
    rw [dec_low (by simp at h; omega)] at hb
    have hi : i = 0 := by have := (List.getElem?_eq_some_iff.1 hb).1; simp at this; omega
    subst hi
    simp only [List.getElem?_cons_zero, Option.some.injEq] at hb
    subst hb
    exact one n (by simp at h; omega)
  | succ k ih =>
    intro n h i b hb
    rcases Nat.lt_or_ge 9 n with h9 | h9
    · rw [dec_high h9] at hb
      rcases Nat.lt_or_ge i (dec (n / 10)).length with hi | hi
      · rw [List.getElem?_append_left hi] at hb
        exact ih (n / 10) (by rw [Nat.pow_succ] at h; omega) i b hb
      · rw [List.getElem?_append_right hi] at hb
        have hi0 : i - (dec (n / 10)).length = 0 := by have := (List.getElem?_eq_some_iff.1 hb).1; simp at this; omega
        rw [hi0] at hb
        simp only [List.getElem?_cons_zero, Option.some.injEq] at hb
        subst hb
        exact one (n % 10) (by omega)
    · rw [dec_low h9] at hb
      have hi : i = 0 := by have := (List.getElem?_eq_some_iff.1 hb).1; simp at this; omega
      subst hi
      simp only [List.getElem?_cons_zero, Option.some.injEq] at hb
      subst hb
      exact one n h9
theorem dec_head : ∀ (k n : Nat), n < 10 ^ (k + 1) → 0 < n → ∃ b l, dec n = b :: l ∧ b.toNat ≠ 48
  | 0, n, h, h0 => ⟨_, [], dec_low (by simp at h; omega), by
    have : (UInt8.ofNat (48 + n)).toNat = 48 + n := by simp at h ⊢; omega
    omega⟩
  | k + 1, n, h, h0 => by
    rcases Nat.lt_or_ge 9 n with h9 | h9
    · obtain ⟨b, l, e, hb⟩ := dec_head k (n / 10) (by rw [Nat.pow_succ] at h; omega) (by omega)
      exact ⟨b, l ++ [UInt8.ofNat (48 + n % 10)], by rw [dec_high h9, e]; rfl, hb⟩
    · exact ⟨_, [], dec_low h9, by
        have : (UInt8.ofNat (48 + n)).toNat = 48 + n := by simp; omega
        omega⟩
theorem dec_val (s : ByteArray) (p : Nat) : ∀ (k n : Nat), n < 10 ^ (k + 1) → Bts s p (dec n) → val s p (dec n).length = n
  | 0, n, h, hb => by
    have hn : n ≤ 9 := by simp at h; omega
    rw [dec_low hn] at hb ⊢
    have := hb.head
    have e : (UInt8.ofNat (48 + n)).toNat = 48 + n := by simp; omega
    simp only [List.length_cons, List.length_nil, val, Nat.add_zero]
    rw [this, e]
    omega
  | k + 1, n, h, hb => by
    rcases Nat.lt_or_ge 9 n with h9 | h9
    · rw [dec_high h9] at hb ⊢
      have h1 := dec_val s p k (n / 10) (by rw [Nat.pow_succ] at h; omega) hb.left
      have h2 := hb.right.head
      have e : (UInt8.ofNat (48 + n % 10)).toNat = 48 + n % 10 := by simp; omega
      rw [List.length_append]
      simp only [List.length_cons, List.length_nil, val]
      rw [h1, h2, e]
      omega
    · rw [dec_low h9] at hb ⊢
      have := hb.head
      have e : (UInt8.ofNat (48 + n)).toNat = 48 + n := by simp; omega
      simp only [List.length_cons, List.length_nil, val, Nat.add_zero]
      rw [this, e]
      omega
theorem nd_eq (s : ByteArray) : ∀ (k p : Nat), (∀ i, i < k → dg s (p + i) = true) → dg s (p + k) = false → nd s p = k
  | 0, p, _, h => nd_no (by simpa using h)
  | k + 1, p, h, h2 => by
    rw [nd_yes (by simpa using h 0 (by omega)), nd_eq s k (p + 1) (fun i hi => by have := h (i + 1) (by omega); rwa [show p + 1 + i = p + (i + 1) from by omega]) (by rwa [show p + 1 + k = p + (k + 1) from by omega])]
theorem num_text {s : ByteArray} {p n : Nat} (hn : n < 10007) (hb : Bts s p (dec n)) (he : dg s (p + (dec n).length) = false) : num s p = some (n, p + (dec n).length) := by
  have h5 : n < 10 ^ (4 + 1) := by omega
  have hd : nd s p = (dec n).length := nd_eq s _ p (fun i hi => by
    have h1 := hb i _ (List.getElem?_eq_getElem hi)
    have h2 := dec_digit 4 n h5 i _ (List.getElem?_eq_getElem hi)
    unfold dg
    rw [decide_eq_true_eq, h1]
    omega) he
  have hv := dec_val s p 4 n h5 hb
  have hp := dec_pos n
  rw [num_some (by omega) (fun h48 => ?_) (by rw [hd, hv]; exact hn), hd, hv]
  rcases Nat.eq_zero_or_pos n with h0 | h0
  · rw [hd, h0, dec_low (by omega)]
    simp
  · obtain ⟨b, l, e, hb48⟩ := dec_head 4 n h5 h0
    rw [e] at hb
    have := hb.head
    omega

theorem text_head : ∀ (d : Nat) (t : T d), okT d t → ∃ b l, text d t = b :: l ∧ b.toNat ≠ 93
  | 0, n, h => by
    have hp := dec_pos (show Nat from n)
    obtain ⟨b, l, e⟩ := List.exists_cons_of_length_pos hp
    refine ⟨b, l, e, ?_⟩
    have := dec_digit 4 (show Nat from n) (by have : (show Nat from n) < 10007 := h; omega) 0 b (by rw [e]; rfl)
    omega
  | d + 1, ts, _ => ⟨91, _, rfl, by decide⟩
theorem more_text {s : ByteArray} {d : Nat} (he : ∀ (t : T d) (p : Nat), okT d t → Bts s p (text d t) → dg s (p + (text d t).length) = false → node s d p = some (t, p + (text d t).length)) :
    ∀ (l : List (T d)) (f p : Nat), (∀ t ∈ l, okT d t) → l.length < f → Bts s p (l.flatMap (fun x => 44 :: text d x) ++ [93]) → more s (node s d) f p = some (l, p + (l.flatMap (fun x => 44 :: text d x)).length + 1)
  | [], f, p, _, hf, hb => by
    obtain ⟨f', rfl⟩ : ∃ f', f = f' + 1 := ⟨f - 1, by simp at hf; omega⟩
    have : ba s p = 93 := hb.head
    rw [more, if_pos this]
    rfl
  | t :: l, f, p, hk, hf, hb => by
    obtain ⟨f', rfl⟩ : ∃ f', f = f' + 1 := ⟨f - 1, by simp at hf; omega⟩
    have hb' : Bts s p (44 :: (text d t ++ (l.flatMap (fun x => 44 :: text d x) ++ [93]))) := by simpa using hb
    have h44 : ba s p = 44 := hb'.head
    have hr := hb'.tail.right
    have hnd : dg s (p + 1 + (text d t).length) = false := by
      have hx : ba s (p + 1 + (text d t).length) = 44 ∨ ba s (p + 1 + (text d t).length) = 93 := by
        cases l with
        | nil => exact .inr hr.head
        | cons x l => exact .inl (by have h2 : Bts s (p + 1 + (text d t).length) (44 :: (text d x ++ l.flatMap (fun x => 44 :: text d x) ++ [93])) := by simpa using hr
                                     exact h2.head)
      unfold dg
      rw [decide_eq_false_iff_not]
      omega
    rw [more, if_neg (by omega), if_pos h44, he t (p + 1) (hk t (by simp)) hb'.tail.left hnd]
    simp only
    rw [more_text he l f' _ (fun x hx => hk x (by simp [hx])) (by simp at hf; omega) hr]
    simp only [List.flatMap_cons, List.length_append, List.length_cons, Option.some.injEq, Prod.mk.injEq, true_and]
    omega
theorem parts_text {s : ByteArray} {d : Nat} (he : ∀ (t : T d) (p : Nat), okT d t → Bts s p (text d t) → dg s (p + (text d t).length) = false → node s d p = some (t, p + (text d t).length)) :
    ∀ (L : List (T d)) (p : Nat), (∀ t ∈ L, okT d t) → Bts s p (91 :: (lst d L ++ [93])) → parts s (node s d) p = some (L, p + ((lst d L).length + 2))
  | [], p, _, hb => by
    have h2 : ba s (p + 1) = 93 := hb.tail.head
    have h1 : ba s p = 91 := hb.head
    rw [parts, if_pos h1, if_pos h2]
    rfl
  | t :: l, p, hk, hb => by
    have hb' : Bts s p (91 :: (text d t ++ (l.flatMap (fun x => 44 :: text d x) ++ [93]))) := by simpa [lst] using hb
    have hr := hb'.tail.right
    have hle := hr.le (by simp)
    obtain ⟨b, l0, eh, h93⟩ := text_head d t (hk t (by simp))
    have hh : ba s (p + 1) = (b.toNat : Int) := by
      have := hb'.tail.left
      rw [eh] at this
      exact this.head
    have hnd : dg s (p + 1 + (text d t).length) = false := by
      have hx : ba s (p + 1 + (text d t).length) = 44 ∨ ba s (p + 1 + (text d t).length) = 93 := by
        cases l with
        | nil => exact .inr hr.head
        | cons x l => exact .inl (by have h2 : Bts s (p + 1 + (text d t).length) (44 :: (text d x ++ l.flatMap (fun x => 44 :: text d x) ++ [93])) := by simpa using hr
                                     exact h2.head)
      unfold dg
      rw [decide_eq_false_iff_not]
      omega
    have hfl := flat_ge d l
    rw [List.length_append] at hle
    have h1 : ba s p = 91 := hb'.head
    rw [parts, if_pos h1, if_neg (by omega), he t (p + 1) (hk t (by simp)) hb'.tail.left hnd]
    simp only
    rw [more_text he l (s.size + 1) _ (fun x hx => hk x (by simp [hx])) (by omega) hr]
    simp only [lst, List.length_append, Option.some.injEq, Prod.mk.injEq, true_and]
    omega
theorem node_text (s : ByteArray) : ∀ (d : Nat) (t : T d) (p : Nat), okT d t → Bts s p (text d t) → dg s (p + (text d t).length) = false → node s d p = some (t, p + (text d t).length)
  | 0, n, p, h, hb, he => num_text h hb he
  | d + 1, ts, p, h, hb, _ => by
    have e : text (d + 1) ts = 91 :: (lst d ts ++ [93]) := text_succ d ts
    have el : (text (d + 1) ts).length = (lst d ts).length + 2 := by rw [e]; simp
    rw [e] at hb
    rw [el]
    exact parts_text (node_text s d) ts p h hb

theorem bts_all {s : ByteArray} {l : List UInt8} (h : s.data.toList = l) : Bts s 0 l := fun i b hb => by
  have hi := (List.getElem?_eq_some_iff.1 hb).1
  have hs : l.length = s.size := by rw [← h, Array.length_toList]; rfl
  rw [Nat.zero_add, ba_in (by omega)]
  congr 2
  have e : s.data.toList[i]? = some s.data[i] := by simp
  rw [h, hb] at e
  exact (Option.some.inj e).symm
theorem readN_of_text {s : ByteArray} {d : Nat} {t : T d} (h : s.data.toList = text d t) (hk : okT d t) : readN s d = some t := by
  have hs : (text d t).length = s.size := by rw [← h, Array.length_toList]; rfl
  have hn := node_text s d t 0 hk (bts_all h) (by
    unfold dg
    rw [decide_eq_false_iff_not, ba_out (by omega)]
    omega)
  rw [readN, hn]
  simp only
  rw [if_pos (by omega)]
theorem isArr_text {s : ByteArray} {d : Nat} {t : T d} (h : s.data.toList = text d t) (hk : okT d t) (hd : d ≤ 3) (hl : (text d t).length ≤ 400) : isArr s (d : Int) = true := by
  have hs : (text d t).length = s.size := by rw [← h, Array.length_toList]; rfl
  unfold isArr
  rw [decide_eq_true (by omega), Int.toNat_natCast, readN_of_text h hk]
  rfl
end

/- Fold -/
section

/-- All arrays of a level, out of the levels from it on. -/
def foldN : (d : Nat) → List (List Int) → List Int → List (T d)
  | 0, _, D => (D.map Int.toNat : List Nat)
  | _ + 1, [], _ => []
  | d + 1, L :: LL, D => cutBy L (foldN d LL D)

theorem foldN_len : ∀ (d c : Nat) (LL : List (List Int)) (D : List Int), LL.length = d → Fits c LL D → (foldN d LL D).length = c
  | 0, c, LL, D, h, hf => by
    obtain rfl := List.eq_nil_of_length_eq_zero h
    have := hf.1
    show (D.map Int.toNat).length = c
    simpa using this
  | d + 1, c, [], D, h, _ => by simp at h
  | d + 1, c, L :: LL, D, h, hf => by
    show (cutBy L (foldN d LL D)).length = c
    rw [cutBy_len]
    exact hf.1

theorem cutBy_at {α : Type} : ∀ {l : List Int} {xs : List α} {j : Nat} {z : Int}, l[j]? = some z → okN 400 l = true → (cutBy l xs)[j]? = some ((xs.drop (sumI (l.take j)).toNat).take z.toNat)
  | [], _, _, _, h, _ => by simp at h
  | y :: l, xs, 0, z, h, _ => by
    simp only [List.getElem?_cons_zero, Option.some.injEq] at h
    subst h
    simp [cutBy, sumI]
  | y :: l, xs, j + 1, z, h, hok => by
    simp only [okN, Bool.and_eq_true, decide_eq_true_eq] at hok
    have h1 := cutBy_at (l := l) (xs := xs.drop y.toNat) (j := j) (by simpa using h) hok.2
    have h2 := sumI_bound (okN_take hok.2 j)
    simp only [cutBy, List.getElem?_cons_succ, List.take_succ_cons, sumI]
    rw [h1, List.drop_drop]
    congr 3
    omega

/-- The part of a level at a place, of a layout in which nothing is wrong. -/
theorem foldN_at {d : Nat} {L : List Int} {LL : List (List Int)} {D : List Int} {j : Nat} {z : Int} (h : L[j]? = some z) (hok : okN 400 L = true) :
    (foldN (d + 1) (L :: LL) D)[j]? = some ((((foldN d LL D).drop (sumI (L.take j)).toNat).take z.toNat : List (T d))) := cutBy_at h hok

/-- The places of the levels from k on hang on that of k alone. -/
def Cons (LL : List (List Int)) (k : Nat) (at_ : List Int) : Prop := ∀ (i : Nat) (L : List Int), k ≤ i → LL[i]? = some L → ∃ j : Nat, at_[i]? = some (j : Int) ∧ at_[i + 1]? = some (sumI (L.take j))
theorem Cons.up {LL : List (List Int)} {k : Nat} {at_ : List Int} (h : Cons LL k at_) : Cons LL (k + 1) at_ := fun i L hi hL => h i L (by omega) hL
/-- A place set below: those from k on stay. -/
theorem Cons.set {LL : List (List Int)} {k i : Nat} {at_ : List Int} (h : Cons LL k at_) (hi : i < k) (z : Int) : Cons LL k (at_.set i z) := fun m L hm hL => by
  obtain ⟨j, h1, h2⟩ := h m L hm hL
  exact ⟨j, by rw [List.getElem?_set_ne (by omega)]; exact h1, by rw [List.getElem?_set_ne (by omega)]; exact h2⟩
/-- One level up: the next one's places stand where this one's leads. -/
theorem Cons.down {LL : List (List Int)} {k j : Nat} {at_ : List Int} {L : List Int} (h : Cons LL (k + 1) at_) (hL : LL[k]? = some L) (h0 : at_[k]? = some (j : Int)) (h1 : at_[k + 1]? = some (sumI (L.take j))) : Cons LL k at_ := fun i M hi hM => by
  by_cases e : i = k
  · subst e
    obtain rfl : L = M := Option.some.inj (hL.symm.trans hM)
    exact ⟨j, h0, h1⟩
  · exact h i M (by omega) hM

/-- How the places of a fold go on: those below k stay, k's is one more. -/
def Step (LL : List (List Int)) (k j : Nat) (a b : List Int) : Prop := b.length = a.length ∧ (∀ i, i < k → b[i]? = a[i]?) ∧ b[k]? = some ((j + 1 : Nat) : Int) ∧ Cons LL k b
end

/- LvText -/
section

/-- How long the texts of arrays are together. -/
def txs (d : Nat) : List (T d) → Nat
  | [] => 0
  | t :: ts => (text d t).length + txs d ts
theorem txs_append (d : Nat) : ∀ (a b : List (T d)), txs d (a ++ b) = txs d a + txs d b
  | [], b => by simp [txs]
  | t :: a, b => by simp [txs, txs_append d a b, Nat.add_assoc]
theorem txs_len (d : Nat) : ∀ (ts : List (T d)), ts.length ≤ txs d ts
  | [] => by simp
  | t :: ts => by
    have := text_pos d t
    have := txs_len d ts
    simp only [List.length_cons, txs]
    omega
theorem flat_txs (d : Nat) : ∀ (l : List (T d)), txs d l ≤ (l.flatMap (fun x => 44 :: text d x)).length
  | [] => by simp [txs]
  | x :: l => by
    have := flat_txs d l
    simp only [txs, List.flatMap_cons, List.length_append, List.length_cons]
    omega
theorem prt_txs (d : Nat) (t : T (d + 1)) : txs d (prt t) ≤ (text (d + 1) t).length := by
  have e : text (d + 1) t = 91 :: (lst d (prt t) ++ [93]) := text_succ d (prt t)
  rw [e]
  cases h : prt t with
  | nil => simp [txs]
  | cons x l =>
    have := flat_txs d l
    simp only [txs, lst, List.length_cons, List.length_append, List.length_nil]
    omega
theorem flatMap_txs (d : Nat) : ∀ (ts : List (T (d + 1))), txs d (ts.flatMap prt) ≤ txs (d + 1) ts
  | [] => by simp [txs]
  | t :: ts => by
    have h1 := prt_txs d t
    have h2 := flatMap_txs d ts
    rw [List.flatMap_cons, txs_append, txs]
    omega
theorem lv_txs : ∀ (d : Nat) (ts : List (T d)) (L : List Int), L ∈ lv d ts → L.length ≤ txs d ts
  | 0, _, L, h => by cases h
  | d + 1, ts, L, h => by
    rw [lv, List.mem_cons] at h
    rcases h with rfl | h
    · rw [List.length_map]; exact txs_len _ ts
    · exact Nat.le_trans (lv_txs d _ L h) (flatMap_txs d ts)
theorem dat_txs : ∀ (d : Nat) (ts : List (T d)), (dat d ts).length ≤ txs d ts
  | 0, ts => by
    have : (dat 0 ts).length = ts.length := List.length_map _
    rw [this]; exact txs_len _ ts
  | d + 1, ts => Nat.le_trans (dat_txs d _) (flatMap_txs d ts)

/-- Lists that are this short. -/
theorem lv_short {d : Nat} {t : T d} (h : (text d t).length ≤ 1000000) : Short (behind 0 (List.replicate d []) (lv d [t])) ∧ ([] ++ dat d [t]).length ≤ 1000000 := by
  have h1 : txs d [t] = (text d t).length := by simp [txs]
  have h2 := dat_txs d [t]
  refine ⟨fun i L hL => ?_, by simp only [List.nil_append]; omega⟩
  have e : behind 0 (List.replicate d []) (lv d [t]) = lv d [t] := by rw [behind, List.take_zero, List.nil_append, List.drop_zero, lv_zero_add]
  rw [e] at hL
  have := lv_txs d [t] L (List.mem_of_getElem? hL)
  omega
end

/- FoldU -/
section

theorem dec_len : ∀ (k n : Nat), n < 10 ^ (k + 1) → (dec n).length ≤ k + 1
  | 0, n, h => by
    rw [dec_low (by simp at h; omega)]
    simp
  | k + 1, n, h => by
    rcases Nat.lt_or_ge 9 n with h9 | h9
    · rw [dec_high h9, List.length_append]
      have := dec_len k (n / 10) (by rw [Nat.pow_succ] at h; omega)
      simp only [List.length_cons, List.length_nil]
      omega
    · rw [dec_low h9]
      simp
theorem lst_txs (d : Nat) : ∀ (ts : List (T d)), (lst d ts).length ≤ txs d ts + ts.length
  | [] => by simp [lst]
  | t :: ts => by
    have h : ∀ (l : List (T d)), (l.flatMap (fun x => 44 :: text d x)).length ≤ txs d l + l.length := by
      intro l
      induction l with
      | nil => simp
      | cons x l ih =>
        simp only [List.flatMap_cons, List.length_append, List.length_cons, txs] at ih ⊢
        omega
    have := h ts
    simp only [lst, List.length_append, List.length_cons, txs]
    omega
theorem txs_cut (d : Nat) : ∀ (l : List Int) (xs : List (T d)), txs (d + 1) (show List (T (d + 1)) from cutBy l xs) ≤ 2 * l.length + xs.length + txs d xs
  | [], xs => by simp [cutBy, txs]
  | z :: l, xs => by
    have h1 := txs_cut d l (xs.drop z.toNat)
    have h2 := lst_txs d (xs.take z.toNat)
    have e : txs d xs = txs d (xs.take z.toNat) + txs d (xs.drop z.toNat) := by rw [← txs_append, List.take_append_drop]
    have e2 : xs.length = (xs.take z.toNat).length + (xs.drop z.toNat).length := by rw [← List.length_append, List.take_append_drop]
    have e3 : txs (d + 1) (show List (T (d + 1)) from cutBy (z :: l) xs) = (text (d + 1) (show T (d + 1) from xs.take z.toNat)).length + txs (d + 1) (show List (T (d + 1)) from cutBy l (xs.drop z.toNat)) := rfl
    rw [e3, text_succ, List.length_cons, List.length_append, List.length_cons, List.length_nil, List.length_cons]
    omega
theorem txs_num : ∀ (D : List Int), okN 10006 D = true → txs 0 (show List (T 0) from (D.map Int.toNat : List Nat)) ≤ 5 * D.length
  | [], _ => by simp [txs]
  | z :: D, h => by
    simp only [okN, Bool.and_eq_true, decide_eq_true_eq] at h
    have h1 := txs_num D h.2
    have h2 := dec_len 4 z.toNat (by omega)
    have e3 : txs 0 (show List (T 0) from ((z :: D).map Int.toNat : List Nat)) = (dec z.toNat).length + txs 0 (show List (T 0) from (D.map Int.toNat : List Nat)) := rfl
    rw [e3, List.length_cons]
    omega
/-- How many numbers the levels have. -/
def cnt : List (List Int) → Nat
  | [] => 0
  | L :: LL => L.length + cnt LL
theorem txs_fold : ∀ (d c : Nat) (LL : List (List Int)) (D : List Int), LL.length = d → Fits c LL D → txs d (foldN d LL D) + (foldN d LL D).length ≤ 3 * cnt LL + 6 * D.length
  | 0, c, LL, D, h, hf => by
    obtain rfl := List.eq_nil_of_length_eq_zero h
    have h1 := txs_num D hf.2
    have e : foldN 0 [] D = (show List (T 0) from (D.map Int.toNat : List Nat)) := rfl
    have e2 : (show List (T 0) from (D.map Int.toNat : List Nat)).length = D.length := List.length_map _
    rw [e, e2]
    omega
  | d + 1, c, [], D, h, _ => by simp at h
  | d + 1, c, L :: LL, D, h, hf => by
    have h1 := txs_fold d _ LL D (by simpa using h) hf.2.2
    have h2 : txs (d + 1) (foldN (d + 1) (L :: LL) D) ≤ 2 * L.length + (foldN d LL D).length + txs d (foldN d LL D) := txs_cut d L (foldN d LL D)
    have e2 : (foldN (d + 1) (L :: LL) D).length = L.length := cutBy_len L _
    simp only [cnt]
    omega
theorem txs_mem (d : Nat) : ∀ {ts : List (T d)} {j : Nat} {t : T d}, ts[j]? = some t → (text d t).length ≤ txs d ts
  | [], _, _, h => by simp at h
  | x :: l, 0, t, h => by
    simp only [List.getElem?_cons_zero, Option.some.injEq] at h
    subst h
    simp only [txs]
    omega
  | x :: l, j + 1, t, h => by
    have := txs_mem d (ts := l) (j := j) (by simpa using h)
    simp only [txs]
    omega

/-- The text of the array of a layout, if nothing is wrong and it is not too long. -/
def foldText (LL : List (List Int)) (D : List Int) : Option (List UInt8) :=
  if wrong LL D = -1 then match (foldN LL.length LL D)[0]? with
    | some t => if (text LL.length t).length ≤ 400 then some (text LL.length t) else none
    | none => none
  else none
end

/- FoldV -/
section

theorem cutBy_mem {α : Type} : ∀ (l : List Int) (xs p : List α), p ∈ cutBy l xs → ∀ x ∈ p, x ∈ xs
  | [], _, _, h, _, _ => by simp [cutBy] at h
  | z :: l, xs, p, h, x, hx => by
    rw [cutBy, List.mem_cons] at h
    rcases h with rfl | h
    · exact List.mem_of_mem_take hx
    · exact List.mem_of_mem_drop (cutBy_mem l _ p h x hx)
theorem okT_fold : ∀ (d c : Nat) (LL : List (List Int)) (D : List Int), LL.length = d → Fits c LL D → ∀ t ∈ foldN d LL D, okT d t
  | 0, c, LL, D, h, hf, t, ht => by
    obtain rfl := List.eq_nil_of_length_eq_zero h
    have ht' : (show Nat from t) ∈ (D.map Int.toNat : List Nat) := ht
    obtain ⟨z, hz, e⟩ := List.mem_map.1 ht'
    obtain ⟨j, hj⟩ := List.getElem?_of_mem hz
    have := okN_at hj hf.2
    show (show Nat from t) < 10007
    rw [← e]
    omega
  | d + 1, c, [], D, h, _, t, ht => by simp at h
  | d + 1, c, L :: LL, D, h, hf, t, ht => fun x hx => okT_fold d _ LL D (by simpa using h) hf.2.2 x (cutBy_mem L _ t ht x hx)

/-- These strings are the texts of these arrays. -/
def Tx (d : Nat) (ss : List ByteArray) (ts : List (T d)) : Prop := ss.map (·.data.toList) = ts.map (text d)
theorem tx_tail {d : Nat} : ∀ {ss : List ByteArray} {ts : List (T d)}, Tx d ss ts → Lib.joinTail [44] (ss.map (·.data.toList)) = ts.flatMap (fun x => 44 :: text d x) ∧ tot ss = txs d ts ∧ ss.length = ts.length
  | [], [], _ => ⟨rfl, rfl, rfl⟩
  | [], t :: ts, h => by simp [Tx] at h
  | s :: ss, [], h => by simp [Tx] at h
  | s :: ss, t :: ts, h => by
    simp only [Tx, List.map_cons, List.cons.injEq] at h
    obtain ⟨h1, h2, h3⟩ := tx_tail (d := d) (ss := ss) (ts := ts) h.2
    have hs : s.data.toList.length = s.size := by rw [Array.length_toList]; rfl
    refine ⟨?_, ?_, ?_⟩
    · simp only [Lib.joinTail, List.map_cons, List.flatten_cons] at h1 ⊢
      rw [h1, h.1]
      rfl
    · simp only [tot, txs]
      rw [h2, ← h.1, hs]
    · simp [h3]
theorem tx_text {d : Nat} {ss : List ByteArray} {ts : List (T d)} (h : Tx d ss ts) : mkText ss = text (d + 1) ts := by
  have e : text (d + 1) ts = 91 :: (lst d ts ++ [93]) := text_succ d ts
  rw [e, mkText]
  congr 2
  cases ss with
  | nil =>
    cases ts with
    | nil => rfl
    | cons t ts => simp [Tx] at h
  | cons s ss =>
    cases ts with
    | nil => simp [Tx] at h
    | cons t ts =>
      simp only [Tx, List.map_cons, List.cons.injEq] at h
      rw [List.map_cons, Lib.join_cons, (tx_tail (d := d) (ss := ss) (ts := ts) h.2).1, h.1]
      rfl
theorem mkText_length (ss : List ByteArray) : (mkText ss).length = 2 + (ss.length - 1) + tot ss := by
  rw [mkText, List.length_cons, List.length_append, join_len]
  simp
  omega
theorem tx_mem {d : Nat} {ss : List ByteArray} {ts : List (T d)} (h : Tx d ss ts) {s : ByteArray} (hs : s ∈ ss) : ∃ t ∈ ts, s.data.toList = text d t := by
  have h1 : s.data.toList ∈ ss.map (·.data.toList) := List.mem_map.2 ⟨s, hs, rfl⟩
  rw [h] at h1
  obtain ⟨t, ht, e⟩ := List.mem_map.1 h1
  exact ⟨t, ht, e.symm⟩
/-- What MakeArray answers: exactly if the text is not too long. -/
theorem mk_level {d : Nat} {ss : List ByteArray} {ts : List (T d)} (h : Tx d ss ts) (hk : ∀ t ∈ ts, okT d t) (hd : d + 1 ≤ 3) : mkOk ss ((d : Int) + 1) = decide ((text (d + 1) ts).length ≤ 400) := by
  have hl : (text (d + 1) ts).length = 2 + (ss.length - 1) + tot ss := by rw [← tx_text h, mkText_length]
  by_cases h4 : (text (d + 1) ts).length ≤ 400
  · rw [decide_eq_true h4]
    refine mk_all ⟨by omega, by omega⟩ (fun s hs => ?_) (by omega)
    obtain ⟨t, ht, e⟩ := tx_mem h hs
    have hlt : s.size ≤ tot ss := by
      obtain ⟨j, hj⟩ := List.getElem?_of_mem hs
      have h1 := tot_step hj
      have h2 := tot_take_le ss (j + 1)
      omega
    have hs2 : (text d t).length = s.size := by rw [← e, Array.length_toList]; rfl
    have := isArr_text e (hk t ht) (by omega) (by omega)
    rwa [show (d : Int) + 1 - 1 = (d : Int) from by omega]
  · rw [decide_eq_false h4]
    exact mk_long (by omega)

/-- The texts of a level are no longer than those of the level above. -/
theorem txs_up {d c : Nat} {L : List Int} {LL : List (List Int)} {D : List Int} (h : LL.length = d) (hf : Fits c (L :: LL) D) : txs d (foldN d LL D) ≤ txs (d + 1) (foldN (d + 1) (L :: LL) D) := by
  have h1 := foldN_len d _ LL D h hf.2.2
  have h2 := cutBy_flat L (foldN d LL D) hf.2.1 h1
  have h3 := flatMap_txs d (foldN (d + 1) (L :: LL) D)
  have e : (foldN (d + 1) (L :: LL) D).flatMap prt = foldN d LL D := by
    have : (foldN (d + 1) (L :: LL) D).flatMap prt = (cutBy L (foldN d LL D)).flatten := by
      show (cutBy L (foldN d LL D)).flatMap (fun t => t) = _
      simp [List.flatMap]
    rw [this, h2]
  rwa [e] at h3
end

/- Shp -/
section

/-- The first length of a level, 0 for none. -/
def hdI (L : List Int) : Int := L.headD 0
def evenL (L : List Int) : Bool := L.all (fun z => z == hdI L)
def evenLL (LL : List (List Int)) : Bool := LL.all evenL
def maxI : List Int → Int
  | [] => 0
  | z :: l => l.foldl max z
def minI : List Int → Int
  | [] => 0
  | z :: l => l.foldl min z

theorem le_maxI : ∀ (l : List Int) (z : Int), z ≤ l.foldl max z ∧ ∀ x ∈ l, x ≤ l.foldl max z
  | [], z => ⟨Int.le_refl _, fun x hx => by cases hx⟩
  | y :: l, z => by
    obtain ⟨h1, h2⟩ := le_maxI l (max z y)
    simp only [List.foldl_cons]
    refine ⟨by omega, fun x hx => ?_⟩
    rcases List.mem_cons.1 hx with h | h
    · subst h; omega
    · exact h2 x h
theorem minI_le : ∀ (l : List Int) (z : Int), l.foldl min z ≤ z ∧ ∀ x ∈ l, l.foldl min z ≤ x
  | [], z => ⟨Int.le_refl _, fun x hx => by cases hx⟩
  | y :: l, z => by
    obtain ⟨h1, h2⟩ := minI_le l (min z y)
    simp only [List.foldl_cons]
    refine ⟨by omega, fun x hx => ?_⟩
    rcases List.mem_cons.1 hx with h | h
    · subst h; omega
    · exact h2 x h
theorem maxI_all : ∀ (l : List Int) (z : Int), (∀ x ∈ l, x = z) → l.foldl max z = z
  | [], z, _ => rfl
  | y :: l, z, h => by
    have h1 := h y (by simp)
    subst h1
    simp only [List.foldl_cons]
    rw [show max y y = y by omega]
    exact maxI_all l y (fun x hx => h x (by simp [hx]))
theorem minI_all : ∀ (l : List Int) (z : Int), (∀ x ∈ l, x = z) → l.foldl min z = z
  | [], z, _ => rfl
  | y :: l, z, h => by
    have h1 := h y (by simp)
    subst h1
    simp only [List.foldl_cons]
    rw [show min y y = y by omega]
    exact minI_all l y (fun x hx => h x (by simp [hx]))
theorem even_max {L : List Int} (h : evenL L = true) : maxI L = hdI L := by
  cases L with
  | nil => rfl
  | cons z l =>
    have h1 : ∀ x ∈ l, x = z := fun x hx => by
      have := List.all_eq_true.1 h x (by simp [hx])
      simpa [hdI] using this
    exact maxI_all l z h1
theorem even_min {L : List Int} (h : evenL L = true) : minI L = hdI L := by
  cases L with
  | nil => rfl
  | cons z l =>
    have h1 : ∀ x ∈ l, x = z := fun x hx => by
      have := List.all_eq_true.1 h x (by simp [hx])
      simpa [hdI] using this
    exact minI_all l z h1
theorem even_iff (L : List Int) : maxI L = minI L ↔ evenL L = true := by
  refine ⟨fun h => ?_, fun h => (even_max h).trans (even_min h).symm⟩
  cases L with
  | nil => rfl
  | cons z l =>
    have h1 := le_maxI l z
    have h2 := minI_le l z
    simp only [maxI, minI] at h
    refine List.all_eq_true.2 fun x hx => ?_
    show (x == z) = true
    rcases List.mem_cons.1 hx with e | e
    · simp [e]
    · have h3 := h1.2 x e
      have h4 := h2.2 x e
      have h5 := h1.1
      have h6 := h2.1
      rw [beq_iff_eq]
      omega
theorem maxI_step {L : List Int} {i : Nat} {z : Int} (hi : 0 < i) (h : L[i]? = some z) : maxI (L.take (i + 1)) = max (maxI (L.take i)) z := by
  rw [List.take_add_one, h]
  cases L with
  | nil => simp at h
  | cons y l =>
    obtain ⟨k, rfl⟩ : ∃ k, i = k + 1 := ⟨i - 1, by omega⟩
    simp [maxI, List.foldl_append]
theorem minI_step {L : List Int} {i : Nat} {z : Int} (hi : 0 < i) (h : L[i]? = some z) : minI (L.take (i + 1)) = min (minI (L.take i)) z := by
  rw [List.take_add_one, h]
  cases L with
  | nil => simp at h
  | cons y l =>
    obtain ⟨k, rfl⟩ : ∃ k, i = k + 1 := ⟨i - 1, by omega⟩
    simp [minI, List.foldl_append]
theorem max_even_all {LL : List (List Int)} : LL.map maxI = LL.map minI ↔ evenLL LL = true := by
  induction LL with
  | nil => simp [evenLL]
  | cons L LL ih =>
    have h1 := even_iff L
    simp only [List.map_cons, List.cons.injEq, evenLL, List.all_cons, Bool.and_eq_true] at ih ⊢
    rw [h1, ih]
theorem max_hd {LL : List (List Int)} (h : evenLL LL = true) : LL.map maxI = LL.map hdI := by
  refine List.map_congr_left fun L hL => even_max (List.all_eq_true.1 h L hL)

/-- The shape of a layout: nothing if a level's lengths are not the same. -/
def shR (LL : List (List Int)) : List Int := if evenLL LL = true then LL.map hdI else []
/-- An array of three ints. -/
def pad3 (zs : List Int) : List Int := zs ++ List.replicate (3 - zs.length) 0
theorem pad3_len {zs : List Int} (h : zs.length ≤ 3) : (pad3 zs).length = 3 := by simp [pad3]; omega
theorem pad3_inj {xs ys : List Int} (hl : xs.length = ys.length) (h : pad3 xs = pad3 ys) : xs = ys := by
  unfold pad3 at h
  exact (List.append_inj h hl).1
theorem pad3_set {zs : List Int} {z : Int} (h : zs.length < 3) : (pad3 zs).set zs.length z = pad3 (zs ++ [z]) := by
  unfold pad3
  rw [List.set_append_right _ _ (Nat.le_refl _), Nat.sub_self]
  obtain ⟨k, hk⟩ : ∃ k, 3 - zs.length = k + 1 := ⟨2 - zs.length, by omega⟩
  have hk2 : 3 - (zs ++ [z]).length = k := by simp; omega
  rw [hk, hk2]
  simp [List.replicate_succ]
end

/- Fil -/
section

theorem okN_of {hi : Int} : ∀ {l : List Int}, (∀ z ∈ l, 0 ≤ z ∧ z ≤ hi) → okN hi l = true
  | [], _ => rfl
  | z :: l, h => by
    have h1 := h z (by simp)
    simp only [okN, Bool.and_eq_true, decide_eq_true_eq]
    exact ⟨h1, okN_of fun x hx => h x (by simp [hx])⟩
theorem okN_mem {hi : Int} {l : List Int} (h : okN hi l = true) {z : Int} (hz : z ∈ l) : 0 ≤ z ∧ z ≤ hi := by
  obtain ⟨j, hj⟩ := List.getElem?_of_mem hz
  exact okN_at hj h

/-- The product of a shape, 1 for none. -/
def prodI : List Int → Int
  | [] => 1
  | k :: sh => k * prodI sh
theorem prod_fold : ∀ (sh : List Int) (r : Int), sh.foldl (· * ·) r = r * prodI sh
  | [], r => by simp [prodI]
  | k :: sh, r => by rw [List.foldl_cons, prod_fold sh, prodI, Int.mul_assoc]
theorem prod_nn : ∀ {sh : List Int}, okN 400 sh = true → 0 ≤ prodI sh
  | [], _ => by simp [prodI]
  | k :: sh, h => by
    simp only [okN, Bool.and_eq_true, decide_eq_true_eq] at h
    exact Int.mul_nonneg h.1.1 (prod_nn h.2)
theorem prod_snoc (sh : List Int) (k : Int) : prodI (sh ++ [k]) = prodI sh * k := by
  have h1 := prod_fold (sh ++ [k]) 1
  have h2 := prod_fold sh 1
  rw [List.foldl_append, h2] at h1
  simp only [List.foldl_cons, List.foldl_nil, Int.one_mul] at h1
  exact h1.symm
/-- The product, or 401 if it is more: as the model keeps it. -/
theorem cap_step (a n : Int) (hn : 0 ≤ n) : min (min a 401 * n) 401 = min (a * n) 401 := by
  rcases Int.le_total a 401 with h | h
  · rw [Int.min_eq_left h]
  · rw [Int.min_eq_right h]
    rcases Int.le_total n 0 with h0 | h0
    · have : n = 0 := by omega
      subst this
      simp
    · by_cases hn0 : n = 0
      · subst hn0; simp
      · have h1 : 401 * 1 ≤ 401 * n := Int.mul_le_mul_of_nonneg_left (by omega) (by omega)
        have h2 : 401 * n ≤ a * n := Int.mul_le_mul_of_nonneg_right h hn
        rw [Int.min_eq_right (by omega), Int.min_eq_right (by omega)]
/-- The product of three lengths at most is no great number. -/
theorem prod_le : ∀ {sh : List Int}, okN 400 sh = true → prodI sh ≤ (400 : Int) ^ sh.length
  | [], _ => by simp [prodI]
  | k :: sh, h => by
    simp only [okN, Bool.and_eq_true, decide_eq_true_eq] at h
    have h1 := prod_le h.2
    have h2 := prod_nn h.2
    rw [prodI, List.length_cons, Int.pow_succ]
    have h3 : k * prodI sh ≤ 400 * prodI sh := Int.mul_le_mul_of_nonneg_right h.1.2 h2
    have h4 : 400 * prodI sh ≤ 400 * (400 : Int) ^ sh.length := Int.mul_le_mul_of_nonneg_left h1 (by omega)
    rw [Int.mul_comm ((400 : Int) ^ sh.length) 400]
    omega
theorem prod_le3 {sh : List Int} (h : okN 400 sh = true) (hl : sh.length ≤ 3) : prodI sh ≤ 64000000 := by
  have h1 := prod_le h
  have h2 : (400 : Int) ^ sh.length ≤ 64000000 := by
    obtain ⟨n, hn⟩ : ∃ n, sh.length = n := ⟨_, rfl⟩
    rw [hn] at hl ⊢
    match n, hl with
    | 0, _ => decide
    | 1, _ => decide
    | 2, _ => decide
    | 3, _ => decide
  omega

/-- The array of a shape with the first numbers of a list. -/
def fillT : (sh : List Int) → List Int → T sh.length
  | [], ns => (show Nat from (ns.headD 0).toNat)
  | k :: sh, ns => (show List (T sh.length) from (List.range k.toNat).map fun i => fillT sh (ns.drop (i * (prodI sh).toNat)))
theorem fillT_cons (k : Int) (sh : List Int) (ns : List Int) : prt (d := sh.length) (fillT (k :: sh) ns) = (List.range k.toNat).map fun i => fillT sh (ns.drop (i * (prodI sh).toNat)) := rfl
theorem fillT_take : ∀ (sh : List Int) (ns : List Int) (m : Nat), okN 400 sh = true → (prodI sh).toNat ≤ m → fillT sh (ns.take m) = fillT sh ns
  | [], ns, m, _, hm => by
    have hm1 : 1 ≤ m := hm
    cases ns with
    | nil => simp
    | cons z l =>
      obtain ⟨k, rfl⟩ : ∃ k, m = k + 1 := ⟨m - 1, by omega⟩
      rfl
  | k :: sh, ns, m, h, hm => by
    simp only [okN, Bool.and_eq_true, decide_eq_true_eq] at h
    have hp := prod_nn h.2
    show (List.range k.toNat).map (fun i => fillT sh ((ns.take m).drop (i * (prodI sh).toNat))) = (List.range k.toNat).map (fun i => fillT sh (ns.drop (i * (prodI sh).toNat)))
    refine List.map_congr_left fun i hi => ?_
    have hik : i < k.toNat := List.mem_range.1 hi
    rw [List.drop_take]
    refine fillT_take sh _ _ h.2 ?_
    have e : (prodI (k :: sh)).toNat = k.toNat * (prodI sh).toNat := by rw [prodI, Int.toNat_mul h.1.1 hp]
    rw [e] at hm
    have h1 : (i + 1) * (prodI sh).toNat ≤ k.toNat * (prodI sh).toNat := Nat.mul_le_mul_right _ hik
    rw [Nat.add_mul, Nat.one_mul] at h1
    omega
theorem fillT_ok : ∀ (sh : List Int) (ns : List Int), okN 10006 ns = true → okT sh.length (fillT sh ns)
  | [], ns, h => by
    show (show Nat from (ns.headD 0).toNat) < 10007
    cases ns with
    | nil => show (0 : Nat) < 10007; omega
    | cons z l =>
      simp only [okN, Bool.and_eq_true, decide_eq_true_eq] at h
      show z.toNat < 10007
      omega
  | k :: sh, ns, h => by
    show ∀ t ∈ (List.range k.toNat).map (fun i => fillT sh (ns.drop (i * (prodI sh).toNat))), okT sh.length t
    intro t ht
    obtain ⟨i, _, rfl⟩ := List.mem_map.1 ht
    exact fillT_ok sh _ (okN_drop h _)

/-- No text of so many levels is longer. -/
def tbF : Nat → Nat
  | 0 => 5
  | d + 1 => 2 + 400 * (tbF d + 1)
theorem flat_leF (d b : Nat) : ∀ (l : List (T d)), (∀ t ∈ l, (text d t).length ≤ b) → (l.flatMap (fun x => 44 :: text d x)).length ≤ l.length * (b + 1)
  | [], _ => by simp
  | t :: l, h => by
    have h1 := h t (by simp)
    have h2 := flat_leF d b l (fun x hx => h x (by simp [hx]))
    simp only [List.flatMap_cons, List.length_append, List.length_cons, Nat.add_mul, Nat.one_mul] at h2 ⊢
    omega
theorem lst_flat (d : Nat) : ∀ (l : List (T d)), (lst d l).length ≤ (l.flatMap (fun x => 44 :: text d x)).length
  | [] => by simp [lst]
  | t :: l => by simp only [lst, List.flatMap_cons, List.length_append, List.length_cons]; omega
theorem text_fillT : ∀ (sh ns : List Int), okN 400 sh = true → okN 10006 ns = true → (text sh.length (fillT sh ns)).length ≤ tbF sh.length
  | [], ns, _, h => by
    have hz : (ns.headD 0).toNat < 10 ^ (4 + 1) := by
      cases ns with
      | nil => decide
      | cons z l =>
        simp only [okN, Bool.and_eq_true, decide_eq_true_eq] at h
        show z.toNat < 100000
        omega
    exact dec_len 4 _ hz
  | k :: sh, ns, h, hn => by
    simp only [okN, Bool.and_eq_true, decide_eq_true_eq] at h
    have e : text (k :: sh).length (fillT (k :: sh) ns) = 91 :: (lst sh.length ((List.range k.toNat).map fun i => fillT sh (ns.drop (i * (prodI sh).toNat))) ++ [93]) := text_succ sh.length _
    have h1 := lst_flat sh.length ((List.range k.toNat).map fun i => fillT sh (ns.drop (i * (prodI sh).toNat)))
    have h2 := flat_leF sh.length (tbF sh.length) ((List.range k.toNat).map fun i => fillT sh (ns.drop (i * (prodI sh).toNat))) (fun t ht => by
      obtain ⟨i, _, rfl⟩ := List.mem_map.1 ht
      exact text_fillT sh _ h.2 (okN_drop hn _))
    rw [List.length_map, List.length_range] at h2
    have h3 : k.toNat * (tbF sh.length + 1) ≤ 400 * (tbF sh.length + 1) := Nat.mul_le_mul_right _ (by omega)
    have h4 := Nat.le_trans h1 (Nat.le_trans h2 h3)
    clear h1 h2 h3
    rw [e]
    show (91 :: (lst sh.length _ ++ [93])).length ≤ 2 + 400 * (tbF sh.length + 1)
    generalize 400 * (tbF sh.length + 1) = q at h4 ⊢
    rw [List.length_cons, List.length_append]
    have h5 : ([93] : List UInt8).length = 1 := rfl
    omega
theorem text_fill {sh ns : List Int} (hok : okN 400 sh = true) (hn : okN 10006 ns = true) (hl : sh.length ≤ 3) : (text sh.length (fillT sh ns)).length ≤ 1000000000 := by
  have h := text_fillT sh ns hok hn
  obtain ⟨n, hnn⟩ : ∃ n, sh.length = n := ⟨_, rfl⟩
  have h2 : tbF sh.length ≤ 1000000000 := by
    rw [hnn] at hl ⊢
    match n, hl with
    | 0, _ => decide
    | 1, _ => decide
    | 2, _ => decide
    | 3, _ => decide
  omega

/-- Are these a shape and its numbers? -/
def fillB (sh ns : List Int) : Bool := decide (sh.length ≤ 3) && okN 400 sh && (decide (ns.length ≤ 400) && okN 10006 ns) && decide (prodI sh = ns.length)
/-- The text of the filled array, nothing where there is none. -/
def fillX (sh ns : List Int) : Option (List UInt8) := if fillB sh ns = true ∧ (text sh.length (fillT sh ns)).length ≤ 400 then some (text sh.length (fillT sh ns)) else none
end

/- LayRd -/
section
open Go.RowKit

theorem readN_text {s : ByteArray} {d : Nat} {t : T d} (h : readN s d = some t) : s.data.toList = text d t := by
  unfold readN at h
  split at h
  · cases h
  · rename_i t' q hn
    split at h
    · rename_i hq
      cases h
      have := sub_node s d 0 _ q hn
      rw [hq, sub_all] at this
      exact this
    · cases h
theorem readN_short {s : ByteArray} {d : Nat} {t : T d} (h : readN s d = some t) (hs : s.size ≤ 400) : (text d t).length ≤ 1000000 := by
  rw [← readN_text h, Array.length_toList]
  have : s.data.size = s.size := rfl
  omega

theorem gr_below {w u w' : World} (h : w.grownBy u none) (hb : Below w.heap.size u w') : w.grownBy w' none :=
  ⟨hb.os.trans h.os, hb.tape.trans h.tape, hb.output.trans h.output, Nat.le_trans h.size hb.size, fun k hk hne => (hb.block k hk).trans (h.block k hk hne)⟩

theorem LaidAt.reads {w : World} {base g c : Nat} {dv : Value} {LL : List (List Int)} {D : List Int} (h : LaidAt w base g c dv LL D) :
    (∃ A8 c8, dv = .slice A8 D.length c8 ∧ Ints w A8 D ∧ D.length ≤ c8 ∧ (A8 = none → c8 = 0)) ∧ Rws w (some ⟨g, 0, none⟩) LL ∧
    ∀ (w' : World) (j : Nat) (L : List Int), w.grownBy w' none → LL[j]? = some L → ∀ b off, some (⟨g, 0, none⟩ : Addr) = some ⟨b, off, none⟩ → ∃ Aj cj, w'.cell? ⟨b, off + j, none⟩ = some (.slice Aj L.length cj) ∧ Ints w' Aj L ∧ (Aj = none → cj = 0) ∧ L.length ≤ cj := by
  obtain ⟨vs, ho, hr⟩ := h
  have hlen : vs.length = LL.length := by have := ho.1; omega
  have hrow : ∀ (i : Nat) (L : List Int), LL[i]? = some L → ∃ v, vs[i]? = some v ∧ w.ownsRow base 3 1 v L.length (L.map (Value.int .i64)) := fun i L hL => by
    have hi := (List.getElem?_eq_some_iff.1 hL).1
    exact ⟨vs[i], List.getElem?_eq_getElem (by omega), hr.2.1 i vs[i] L (by rw [List.getElem?_append_left (by omega)]; exact List.getElem?_eq_getElem (by omega)) (by rw [List.getElem?_append_left hi]; exact hL)⟩
  refine ⟨?_, ?_, ?_⟩
  · have hd := hr.2.1 vs.length dv D (by simp) (by rw [hlen]; simp)
    obtain ⟨A8, m8, c8, rfl⟩ := own_form hd
    obtain ⟨h1, h2, h3, h4⟩ := row_reads hd
    subst h1
    exact ⟨A8, c8, rfl, h2, h3, h4⟩
  · refine rws_own ho (fun i L hL => ?_)
    obtain ⟨v, hv, hov⟩ := hrow i L hL
    obtain ⟨A8, m8, c8, rfl⟩ := own_form hov
    obtain ⟨h1, h2, h3, h4⟩ := row_reads hov
    subst h1
    exact ⟨_, hv, A8, c8, rfl, h3, fun _ => hov⟩
  · intro w' j L hg hL b off hbo
    cases hbo
    obtain ⟨v, hv, hov⟩ := hrow j L hL
    obtain ⟨A8, m8, c8, rfl⟩ := own_form hov
    obtain ⟨h1, h2, h3, h4⟩ := row_reads hov
    subst h1
    have hc := ho.cells (g := g) rfl j _ hv
    rw [addr_flat] at hc
    exact ⟨A8, c8, hg.cell hc (by simp), h2.grown hg (by simp), h4, h3⟩
end

/- RowsT -/
section

/-! ### What is read is as it is to be -/
theorem okT_more {s : ByteArray} {d : Nat} (he : ∀ p t q, node s d p = some (t, q) → okT d t) :
    ∀ (f p : Nat) (xs : List (T d)) (r : Nat), more s (node s d) f p = some (xs, r) → ∀ t ∈ xs, okT d t
  | 0, p, xs, r, h => by cases h
  | f + 1, p, xs, r, h => by
    unfold more at h
    split at h
    · cases h
      intro t ht
      cases ht
    · split at h
      · split at h
        · cases h
        · rename_i x q hx
          split at h
          · cases h
          · rename_i ys r' hm
            cases h
            intro t ht
            rcases List.mem_cons.1 ht with e | e
            · subst e
              exact he _ _ _ hx
            · exact okT_more he f q ys _ hm t e
      · cases h
theorem okT_node (s : ByteArray) : ∀ (d p : Nat) (t : T d) (q : Nat), node s d p = some (t, q) → okT d t
  | 0, p, t, q, h => (num_ge (v := t) h).2.2
  | d + 1, p, t, q, h => by
    have he := fun p t q h => okT_node s d p t q h
    change parts s (node s d) p = some (t, q) at h
    unfold parts at h
    split at h
    · split at h
      · cases h
        intro t ht
        cases ht
      · split at h
        · cases h
        · rename_i x q1 hx
          split at h
          · cases h
          · rename_i ys r' hm
            cases h
            intro t ht
            rcases List.mem_cons.1 ht with e | e
            · subst e
              exact he _ _ _ hx
            · exact okT_more he _ _ ys _ hm t e
    · cases h
theorem okT_read {s : ByteArray} {d : Nat} {t : T d} (h : readN s d = some t) : okT d t := by
  unfold readN at h
  split at h
  · cases h
  · rename_i t' q hn
    split at h
    · cases h
      exact okT_node s d 0 t q hn
    · cases h

/-! ### Rows -/
/-- The numbers of a row. -/
def rowI (r : T 1) : List Int := (show List Nat from r).map fun n : Nat => (n : Int)
def rowsI (t : T 2) : List (List Int) := (show List (T 1) from t).map rowI
/-- The array with these rows. -/
def tR (R : List (List Int)) : T 2 := (show List (T 1) from R.map fun r => (show T 1 from (r.map Int.toNat : List Nat)))
def lensI (R : List (List Int)) : List Int := R.map fun r => (r.length : Int)
def okR (R : List (List Int)) : Prop := R.length ≤ 400 ∧ ∀ r ∈ R, r.length ≤ 400 ∧ okN 10006 r = true
/-- The text of the array with these rows, if it is not too long. -/
def rowsX (R : List (List Int)) : Option (List UInt8) := if (text 2 (tR R)).length ≤ 400 then some (text 2 (tR R)) else none

theorem rowI_len (r : T 1) : (rowI r).length = (prt r).length := by unfold rowI prt; exact List.length_map _
theorem rowsI_len (t : T 2) : (rowsI t).length = (prt t).length := by unfold rowsI prt; exact List.length_map _

theorem okN_flat {hi : Int} {R : List (List Int)} (h : ∀ r ∈ R, okN hi r = true) : okN hi R.flatten = true := by
  refine okN_of fun z hz => ?_
  obtain ⟨r, hr, hz⟩ := List.mem_flatten.1 hz
  exact okN_mem (h r hr) hz
theorem sum_lens : ∀ (R : List (List Int)), sumI (lensI R) = (R.flatten.length : Int)
  | [] => rfl
  | r :: R => by
    have h := sum_lens R
    simp only [lensI, List.map_cons, sumI, List.flatten_cons, List.length_append] at h ⊢
    omega
theorem lens_ok {R : List (List Int)} (h : ∀ r ∈ R, r.length ≤ 400) : okN 400 (lensI R) = true := by
  refine okN_of fun z hz => ?_
  obtain ⟨r, hr, rfl⟩ := List.mem_map.1 hz
  have := h r hr
  omega
theorem lens_len (R : List (List Int)) : (lensI R).length = R.length := by simp [lensI]
theorem fits_rows {R : List (List Int)} (h : okR R) : Fits 1 [[(R.length : Int)], lensI R] R.flatten := by
  refine ⟨rfl, ?_, ?_, ?_, ?_, ?_⟩
  · have := h.1
    simp only [okN, Bool.and_eq_true, decide_eq_true_eq]
    exact ⟨by omega, trivial⟩
  · simp [sumI, lens_len]
  · exact lens_ok fun r hr => (h.2 r hr).1
  · rw [sum_lens]; simp
  · exact okN_flat fun r hr => (h.2 r hr).2
theorem cutBy_rows : ∀ (R : List (List Int)), cutBy (lensI R) (R.flatten.map Int.toNat) = R.map fun r => r.map Int.toNat
  | [] => rfl
  | r :: R => by
    have h := cutBy_rows R
    simp only [lensI, List.map_cons, cutBy, List.flatten_cons, List.map_append, Int.toNat_natCast] at h ⊢
    have e : (r.map Int.toNat).length = r.length := by simp
    rw [List.take_left' e, List.drop_left' e, h]
theorem fold_rows (R : List (List Int)) : foldN 2 [[(R.length : Int)], lensI R] R.flatten = [tR R] := by
  show cutBy [(R.length : Int)] (cutBy (lensI R) (R.flatten.map Int.toNat : List Nat)) = _
  rw [cutBy_rows R]
  simp only [cutBy, Int.toNat_natCast]
  rw [List.take_of_length_le (by simp)]
  rfl
theorem wrong_rows {R : List (List Int)} (h : okR R) : wrong [[(R.length : Int)], lensI R] R.flatten = -1 := fits_wrong _ 0 1 _ (fits_rows h) (.inl (by simp))
theorem foldText_rows {R : List (List Int)} (h : okR R) : foldText [[(R.length : Int)], lensI R] R.flatten = rowsX R := by
  unfold foldText
  rw [if_pos (wrong_rows h)]
  have e : (foldN [[(R.length : Int)], lensI R].length [[(R.length : Int)], lensI R] R.flatten)[0]? = some (tR R) := by
    show (foldN 2 [[(R.length : Int)], lensI R] R.flatten)[0]? = _
    rw [fold_rows]
    rfl
  rw [e]
  rfl
theorem lv2 (t : T 2) : lv 2 [t] = [[((rowsI t).length : Int)], lensI (rowsI t)] := by
  simp only [lv, List.map_cons, List.map_nil, List.flatMap_cons, List.flatMap_nil, List.append_nil]
  have e1 : (prt t).length = (rowsI t).length := (rowsI_len t).symm
  have e2 : (prt t).map (fun r => ((prt r).length : Int)) = lensI (rowsI t) := by
    show (show List (T 1) from t).map (fun r => ((prt r).length : Int)) = ((show List (T 1) from t).map rowI).map (fun r => (r.length : Int))
    rw [List.map_map]
    refine List.map_congr_left fun r _ => ?_
    show ((prt r).length : Int) = ((rowI r).length : Int)
    rw [rowI_len]
  rw [e1, e2]
theorem dat2 (t : T 2) : dat 2 [t] = (rowsI t).flatten := by
  have e : ∀ l : List (T 1), dat 0 (l.flatMap prt) = (l.map rowI).flatten := by
    intro l
    induction l with
    | nil => rfl
    | cons r l ih =>
      rw [List.flatMap_cons, dat_append, ih, List.map_cons, List.flatten_cons]
      rfl
  show dat 0 (([t].flatMap prt).flatMap prt) = _
  rw [List.flatMap_cons, List.flatMap_nil, List.append_nil]
  exact e t
theorem lst_len1 (r : T 1) : (rowI r).length ≤ (text 1 r).length := by
  have e : text 1 r = 91 :: (lst 0 r ++ [93]) := text_succ 0 r
  have h := lst_ge 0 (show List (T 0) from r)
  have e2 := rowI_len r
  rw [e, e2, List.length_cons, List.length_append]
  have h' : (prt r).length ≤ (lst 0 r).length := h
  omega
theorem rows_okR {t : T 2} (h : okT 2 t) (ht : (text 2 t).length ≤ 400) : okR (rowsI t) := by
  have e : text 2 t = 91 :: (lst 1 t ++ [93]) := text_succ 1 t
  have h1 := lst_ge 1 (show List (T 1) from t)
  rw [e] at ht
  simp only [List.length_cons, List.length_append] at ht
  refine ⟨?_, fun r hr => ?_⟩
  · have e2 := rowsI_len t
    rw [e2]
    have h' : (prt t).length ≤ (lst 1 t).length := h1
    omega
  · obtain ⟨x, hx, rfl⟩ := List.mem_map.1 hr
    have h2 := lst_len1 x
    have h3 : (text 1 x).length ≤ (lst 1 t).length := by
      have hf : ∀ (l : List (T 1)), x ∈ l → (text 1 x).length ≤ (lst 1 l).length := by
        intro l hl
        have h4 : (text 1 x).length ≤ (l.flatMap (fun y => 44 :: text 1 y)).length ∨ True := .inr trivial
        cases l with
        | nil => cases hl
        | cons y l =>
          simp only [lst, List.length_append]
          rcases List.mem_cons.1 hl with e | e
          · subst e; omega
          · have : ∀ (l : List (T 1)), x ∈ l → (text 1 x).length ≤ (l.flatMap (fun y => 44 :: text 1 y)).length := by
              intro l
              induction l with
              | nil => intro h; cases h
              | cons y l ih =>
                intro h
                simp only [List.flatMap_cons, List.length_append, List.length_cons]
                rcases List.mem_cons.1 h with e | e
                · subst e; omega
                · have := ih e; omega
            have := this l e
            omega
      exact hf t hx
    refine ⟨by omega, okN_of fun z hz => ?_⟩
    obtain ⟨n, hn, rfl⟩ := List.mem_map.1 hz
    have h4 : okT 1 x := h x hx
    have h5 : (show Nat from n) < 10007 := h4 n hn
    have h6 : n < 10007 := h5
    omega
theorem tR_rows (t : T 2) : tR (rowsI t) = t := by
  unfold tR rowsI
  rw [List.map_map]
  have e : ∀ r : T 1, ((fun r : List Int => (show T 1 from (r.map Int.toNat : List Nat))) ∘ rowI) r = r := by
    intro r
    show ((show List Nat from r).map fun n : Nat => (n : Int)).map Int.toNat = r
    rw [List.map_map]
    have : (Int.toNat ∘ fun n : Nat => (n : Int)) = id := by funext n; simp
    rw [this, List.map_id]
  have e2 : ((fun r : List Int => (show T 1 from (r.map Int.toNat : List Nat))) ∘ rowI) = id := funext e
  rw [e2, List.map_id]
theorem rowI_tR : ∀ {r : List Int}, okN 10006 r = true → rowI (show T 1 from (r.map Int.toNat : List Nat)) = r
  | [], _ => rfl
  | z :: r, h => by
    simp only [okN, Bool.and_eq_true, decide_eq_true_eq] at h
    have h1 := rowI_tR (r := r) h.2
    show ((z.toNat : Nat) : Int) :: rowI (show T 1 from (r.map Int.toNat : List Nat)) = z :: r
    rw [h1, Int.toNat_of_nonneg h.1.1]
theorem rowsI_tR : ∀ {R : List (List Int)}, (∀ r ∈ R, okN 10006 r = true) → rowsI (tR R) = R
  | [], _ => rfl
  | r :: R, h => by
    have h1 := rowsI_tR (R := R) (fun x hx => h x (by simp [hx]))
    show rowI (show T 1 from (r.map Int.toNat : List Nat)) :: rowsI (tR R) = r :: R
    rw [h1, rowI_tR (h r (by simp))]
end

/- Rows2 -/
section

/-- The rows of an array of depth two, none if it is none. -/
def rowsS (s : ByteArray) : List (List Int) := if isArr s 2 = true then (match readN s 2 with | some t => rowsI t | none => []) else []
theorem okR_rows (s : ByteArray) : okR (rowsS s) := by
  unfold rowsS
  split
  · rename_i h
    unfold isArr at h
    simp only [Bool.and_eq_true, decide_eq_true_eq] at h
    cases hr : readN s 2 with
    | none => exact ⟨by simp, fun r hr => by cases hr⟩
    | some t =>
      refine rows_okR (okT_read hr) ?_
      rw [← readN_bytes hr, Array.length_toList]
      have : s.data.size = s.size := rfl
      omega
  · exact ⟨by simp, fun r hr => by cases hr⟩
end

/- AnyS -/
section
open Go.RowKit Go.Shelf

theorem nums_row (r : T 1) : nums 1 r = rowI r := by
  show (show List Nat from r).flatMap (fun n : Nat => [(n : Int)]) = (show List Nat from r).map fun n : Nat => (n : Int)
  generalize (show List Nat from r) = l
  induction l with
  | nil => rfl
  | cons n l ih => simp [ih]

/-- l1Read of the model at depth two, whether there is an array or none. -/
def Rd2P (s : ByteArray) (w : World) (e : Ending) (w' : World) : Prop :=
  ∃ (m : Int) (A : Option Addr) (k c : Nat) (ts : List (T 1)) (xs : List (Int × Value)), e = .returned (.tuple #[.agg #[.int .i64 m, .slice A k c], .bool (isArr s 2)]) ∧ w.grownBy w' none ∧ w'.ownsRow 0 50 2 (.slice A k c) xs.length (flat2 xs) ∧
    All2 (SNd w' (fun b => w.heap.size ≤ b) 1) ts xs ∧ ts.map rowI = rowsS s ∧ ∀ r ∈ ts, (text 1 r).length ≤ 1000000
theorem rd2_any (s : ByteArray) (w : World) : Calls Tryz.prog 25 #[.string s, .int .i64 2] w (Rd2P s w) := by
  cases hb : isArr s 2 with
  | false =>
    refine (sread_false hb w).mono ?_
    rintro e w' ⟨rfl, hg⟩
    refine ⟨0, none, 0, 0, [], [], by rw [hb], hg, World.ownsRow_nil _ _ _ _, trivial, ?_, fun r hr => by cases hr⟩
    unfold rowsS
    rw [hb]
    rfl
  | true =>
    obtain ⟨t, ht, hcall⟩ := sread_true (d := 2) rfl hb
    refine (hcall w).mono ?_
    rintro e w' ⟨m, A, k, c, rfl, hg, xs, ho, _, ha⟩
    refine ⟨m, A, k, c, t, xs, by rw [hb], hg, ho, ha, ?_, fun r hr => ?_⟩
    · unfold rowsS
      rw [if_pos hb, ht]
      rfl
    · have h1 := text_mem (d := 1) (ts := t) hr
      have h2 : (lst 1 t).length ≤ (text 2 t).length := by
        have e : text 2 t = 91 :: (lst 1 t ++ [93]) := text_succ 1 t
        rw [e]
        simp only [List.length_cons, List.length_append]
        omega
      have h3 : (text 2 t).length ≤ 400 := by
        rw [← readN_bytes ht, Array.length_toList]
        have : s.data.size = s.size := rfl
        unfold isArr at hb
        simp only [Bool.and_eq_true, decide_eq_true_eq] at hb
        omega
      omega

/-- Blocks of nodes stay. -/
def KN (w w' : World) : Prop := ∀ (b : Nat) (cs : Array Value) (fr : Nat × Nat), w.heap[b]? = some (.cells cs 50 fr) → w'.heap[b]? = some (.cells cs 50 fr)
theorem KN.of {w w' : World} (h : w.grownBy w' none) : KN w w' := fun b cs fr hb => (h.block b (Array.getElem?_eq_some_iff.1 hb).1 (by simp)).trans hb
theorem KN.more {w w1 w2 : World} {row : Option Nat} (h : KN w w1) (hg : w1.grownBy w2 row) (hr : ∀ g, row = some g → ∃ cs t fr, w1.heap[g]? = some (.cells cs t fr) ∧ t ≠ 50) : KN w w2 := fun b cs fr hb => by
  have h1 := h b cs fr hb
  refine (hg.block b (Array.getElem?_eq_some_iff.1 h1).1 (fun e => ?_)).trans h1
  obtain ⟨cs2, t, fr2, h2, ht⟩ := hr b e.symm
  rw [h1] at h2
  cases h2
  exact ht rfl
def NdB (w : World) (b : Nat) : Prop := ∃ cs fr, w.heap[b]? = some (.cells cs 50 fr)
theorem SNd.typed {w : World} {S : Nat → Prop} : ∀ (d : Nat) (t : T d) (x : Int × Value), SNd w S d t x → SNd w (NdB w) d t x
  | 0, _, _, h => h
  | d + 1, ts, x, ⟨xs, ho, _, ha⟩ => by
    refine ⟨xs, ho, fun g hg => ?_, All2.mono (SNd.typed d) ts xs ha⟩
    rcases ho.2 with ⟨hv, _⟩ | ⟨q, cap, cur, hv, _, hb, _⟩
    · rw [hv] at hg; cases hg
    · rw [hv] at hg
      simp only [Value.ownBlock, Option.some.injEq] at hg
      subst hg
      exact ⟨_, _, hb⟩
theorem SNd.kn {w w' : World} {d : Nat} {t : T d} {x : Int × Value} (h : SNd w (NdB w) d t x) (hk : KN w w') : SNd w' (fun _ => True) d t x :=
  SNd.keep (fun b ⟨cs, fr, hb⟩ _ => by rw [hk b cs fr hb, hb]) (fun _ _ _ => trivial) d t x h
theorem row_block {w : World} {A : Option Addr} {k c g : Nat} {xs : List (Int × Value)} (h : w.ownsRow 0 50 2 (.slice A k c) xs.length (flat2 xs)) (hA : A = some ⟨g, 0, none⟩) : ∃ cur, w.heap[g]? = some (.cells cur 50 (0, 0)) := by
  rcases h.2 with ⟨hv, _⟩ | ⟨q, cap, cur, hv, _, hb, _⟩
  · cases hv; cases hA
  · cases hv; cases hA; exact ⟨cur, hb⟩

/-- How l11Any ends. -/
def AnyP (s : ByteArray) (w : World) (e : Ending) (w' : World) : Prop :=
  ∃ A c vs, e = .returned (.tuple #[.slice A (rowsS s).length c, .bool (isArr s 2)]) ∧ w.grownBy w' none ∧ w'.ownsRow w.heap.size 25 1 (.slice A (rowsS s).length c) (rowsS s).length vs ∧ LRows w' w.heap.size vs (rowsS s)

set_option maxRecDepth 100000 in
set_option maxHeartbeats 4000000 in
theorem any_spec (s : ByteArray) (w : World) : Calls Tryz.prog 19 #[.string s] w (AnyP s w) := by
  obtain ⟨i0, hi0, hz0, hz1, hz2⟩ := info_parts infoL
  have HR := Lib.hid (fun w => rd2_any s w)
  unfold Rd2P at HR
  have hok := okR_rows s
  unfold AnyP
  generalize rowsS s = R at HR hok ⊢
  obtain ⟨n, hn⟩ : ∃ n, R.length = n := ⟨_, rfl⟩
  have HN := Lib.hid hn
  have hn4 : n ≤ 400 := by rw [← hn]; exact hok.1
  generalize isArr s 2 = b at HR ⊢
  rw [hn]
  clear hok hn
  have ho0 := World.ownsRow_made (base := w.heap.size) (e := 25) (size := 1) w #[] 0 (Nat.le_refl _) (by simp) (by simp)
  have HO0 := Lib.hid ho0
  have HG0 := Lib.hid (World.grownBy_alloc w (.cells #[] 25) none)
  clear ho0
  go_enter Tryz.func19, Tryz.ntmps19
  go_wp2_with fail
  generalize w.alloc (.cells #[] 25) = w0 at HO0 HG0 ⊢
  refine (HR.out w0).mono ?_
  rintro e w1 ⟨m, A, k, c, ts, xs, rfl, hg1, ho, ha, hR, htx⟩
  obtain ⟨hkx, hkc, hrow⟩ := srow ho
  have hlx := All2.length ts xs ha
  have hkn : k = n := by
    have h1 := HN.out
    rw [← hR, List.length_map] at h1
    omega
  obtain rfl := hkn
  have HG1 := Lib.hid ((HG0.out.trans hg1).trans (World.grownBy_alloc w1 (.cells #[.int .i64 m, .slice A k c] 50) none))
  have HGA := Lib.hid (World.grownBy_alloc w1 (.cells #[.int .i64 m, .slice A k c] 50) none)
  have HO1 := Lib.hid (own_keep HO0.out (fun q hq => (hg1.trans (World.grownBy_alloc w1 (.cells #[.int .i64 m, .slice A k c] 50) none)).block q (HO0.out.lt q hq).2 (by simp)))
  have HA := Lib.hid (All2.mono (SNd.typed 1) ts xs ha)
  have HRB := Lib.hid (fun g => row_block (g := g) ho)
  have HROW := Lib.hid hrow
  have HRR := Lib.hid hR
  have HTX := Lib.hid htx
  have HKX := Lib.hid hkx
  have HLX := Lib.hid hlx
  have p0 := heap_alloc_new w1 (.cells #[.int .i64 m, .slice A k c] 50)
  have p1 : (w1.alloc (.cells #[.int .i64 m, .slice A k c] 50)).cell? ⟨w1.heap.size, 1, none⟩ = some (.slice A k c) := cell_of_row _ w1.heap.size 1 _ _ (0, 0) p0
  clear hg1 ho ha hrow hR htx hkx hlx p0
  go_wp2_with fail
  generalize w1.alloc (.cells #[.int .i64 m, .slice A k c] 50) = w2 at HG1 HGA HO1 p1 ⊢
  go_loopw [4, 8, 18] (fun o _ i wr => ∃ (j g4 c4 : Nat) (vs : List Value), j ≤ k ∧ i = .int .i64 j ∧ o = .slice (some ⟨g4, 0, none⟩) j c4 ∧ Hid (vs.length = j) ∧ Hid (wr.ownsRow w.heap.size 25 1 (.slice (some ⟨g4, 0, none⟩) j c4) j vs) ∧ Hid (LRows wr w.heap.size vs (R.take j)) ∧ Hid (w.grownBy wr none) ∧ Hid (KN w1 wr)) (fun _ _ i _ => k - (intOf i).toNat)
  case atStart => exact ⟨0, _, _, [], Nat.zero_le _, rfl, rfl, Lib.hid rfl, HO1, Lib.hid ⟨rfl, fun i v L hv => by simp at hv, fun i j v u g _ hv => by simp at hv⟩, HG1, Lib.hid (KN.of HGA.out)⟩
  case round =>
    obtain ⟨j, g4, c4, vs, hj, rfl, rfl, hvl, ho, hlr, hgr, hgr1⟩ := hrel
    by_cases hlt : j < k
    · obtain ⟨g, rfl, hgw, hcells⟩ := HROW.out (by omega)
      obtain ⟨t, x, htj, hxj, hr⟩ := All2.at_ (j := j) HA.out (by have := HKX.out; omega)
      have hx := hcells j x hxj
      obtain ⟨m2, sv2⟩ := x
      obtain ⟨A2, k2, c2, hsv⟩ := hr.form
      simp only at hsv hx
      subst hsv
      obtain ⟨cur, hcur⟩ := HRB.out g rfl
      have h1 : wr.cell? ⟨g, j * 2, none⟩ = some (.int .i64 m2) := (cell_of_row wr g (j * 2) _ _ (0, 0) (hgr1.out g cur (0, 0) hcur)).trans ((cell_of_row w1 g (j * 2) _ _ (0, 0) hcur).symm.trans hx.1)
      have h2 : wr.cell? ⟨g, j * 2 + 1, none⟩ = some (.slice A2 k2 c2) := (cell_of_row wr g (j * 2 + 1) _ _ (0, 0) (hgr1.out g cur (0, 0) hcur)).trans ((cell_of_row w1 g (j * 2 + 1) _ _ (0, 0) hcur).symm.trans hx.2)
      have hRj : R[j]? = some (rowI t) := by rw [← HRR.out, List.getElem?_map, htj]; rfl
      have HRJ := Lib.hid (show R.take (j + 1) = R.take j ++ [rowI t] by rw [List.take_add_one, hRj]; rfl)
      have HSN := Lib.hid (SNd.kn hr (hgr1.out.more (World.grownBy_alloc wr (.cells #[.int .i64 m2, .slice A2 k2 c2] 50) none) (fun g e => by cases e)))
      have HCA := Lib.hid (snums_any _ 1 1 t m2 A2 k2 c2 _ rfl (by omega) HSN.out (HTX.out t (List.mem_of_getElem? htj)))
      rw [nums_row] at HCA
      clear hcells hx hxj hr htj hRj hcur
      go_wp2_with fail
      refine HCA.out.mono ?_
      rintro e w5 ⟨v5, rfl, g5, c5, rfl, hg5, ho5⟩
      have hgw5 := (World.grownBy_alloc wr (.cells #[.int .i64 m2, .slice A2 k2 c2] 50) none).trans hg5
      have ho5b := own_keep ho.out (fun q hq => hgw5.block q (ho.out.lt q hq).2 (by simp))
      have HLR5 := Lib.hid (LRows.push (x := .slice (some ⟨g5, 0, none⟩) (rowI t).length c5) (hlr.out.grown hgw5) (own_base ho5 (Nat.le_trans hgr.out.size (by simp))) (fun g i v hg hv hv2 => by
        have h8 := (ho5.lt g hg).1
        have h9 := (hlr.out.lt hv hv2).2
        simp at h8
        omega))
      have HG5 := Lib.hid (hgr.out.trans hgw5)
      have HG51 := Lib.hid (hgr1.out.more hgw5 (fun g e => by cases e))
      obtain ⟨q5, hq5⟩ : ∃ q, (rowI t).length = q := ⟨_, rfl⟩
      rw [hq5] at HLR5 ⊢
      have hvl2 := hvl.out
      have hws := HG5.out.size
      clear hg5 ho5 hgw5 hq5
      go_wp2_with (at_builtin; refine wpList_append_own _ rfl _ _ 32 rfl w.heap.size 25 i0 (.slice none 0 0) 1 24 Tryz.underlying32 hi0 hz0 hz1 hz2 rfl (by decide) _ _ _ rfl (ho5b.alloc _) ⟨w5.heap.size, 0, none⟩ 1 1 [.slice (some ⟨g5, 0, none⟩) q5 c5] rfl rfl (cell_one_new _ _ _) (by simp [Value.oneCell']) (by simp only [maxLen]; omega) (by omega) (by simp; omega) ?_)
      intro v9 w9 hown9 hgr9 hne9
      obtain ⟨g9, c9, rfl⟩ := ownsRow_succ hown9
      have HO9 := Lib.hid hown9
      have hga := World.grownBy_alloc w5 (.cells #[.slice (some ⟨g5, 0, none⟩) q5 c5] 25) none
      have HG9 := Lib.hid (gr_ownF (HG5.out.trans hga) hgr9 (fun k hk => (ho5b.lt k hk).1))
      have HG91 : Hid (KN w1 w9) := Lib.hid ((HG51.out.more hga (fun g e => by cases e)).more hgr9 (fun g e => by
        rcases ho5b.alloc (.cells #[.slice (some ⟨g5, 0, none⟩) q5 c5] 25) |>.2 with ⟨hv, _⟩ | ⟨gq, cap, cur, hv, _, hgq, _⟩
        · cases hv
        · cases hv
          simp only [Value.ownBlock, Option.some.injEq] at e
          subst e
          exact ⟨_, _, _, hgq, by decide⟩))
      have HLR9 := Lib.hid (show LRows w9 w.heap.size (vs ++ [.slice (some ⟨g5, 0, none⟩) q5 c5]) (R.take j ++ [rowI t]) from by
        have h8 := HLR5.out.grown hga
        rcases ho5b.alloc (.cells #[.slice (some ⟨g5, 0, none⟩) q5 c5] 25) |>.2 with ⟨hv, _⟩ | ⟨gq, cap, cur, hv, _, hgq, _⟩
        · cases hv
        · cases hv
          exact h8.other hgq (by decide) hgr9)
      clear hown9 hgr9 hne9 hga ho5b
      go_wp2_with fail
      go_roundw
      case rel =>
        refine ⟨j + 1, g9, c9, _, by omega, by go_num, rfl, Lib.hid (by simp [hvl2]), HO9, Lib.hid (by rw [HRJ.out]; exact HLR9.out), HG9, HG91⟩
      case measure => simp [intOf]; omega
    · have hjk : j = k := by omega
      subst hjk
      have HT := Lib.hid (show R.take j = R from List.take_of_length_le (by have := HN.out; omega))
      go_wp2_with fail
      go_ret2
      have hl2 := hlr.out
      rw [HT.out] at hl2
      exact ⟨some ⟨g4, 0, none⟩, c4, vs, rfl, hgr.out, ho.out, hl2⟩
end

/- FUP -/
section
open Go.RowKit

/-- How FoldUp ends. -/
def FUPost (o : Option (List UInt8)) (w : World) (e : Ending) (w' : World) : Prop := (∃ u : ByteArray, e = .returned (.tuple #[.string u, .bool o.isSome]) ∧ u.data.toList = o.getD []) ∧ w.grownBy w' none

theorem cnt_tot : ∀ (LL : List (List Int)), cnt LL = totL LL
  | [] => rfl
  | L :: LL => by simp only [cnt, totL, cnt_tot LL]

theorem foldText_yes {LL : List (List Int)} {D : List Int} {t : T LL.length} (hv : wrong LL D = -1) (ht : (foldN LL.length LL D)[0]? = some t) : foldText LL D = if (text LL.length t).length ≤ 400 then some (text LL.length t) else none := by
  rw [foldText, if_pos hv, ht]
theorem foldText_no {LL : List (List Int)} {D : List Int} (hv : wrong LL D ≠ -1) : foldText LL D = none := if_neg hv
end

/- TextS -/
section
open Go.RowKit

/-- The array with these numbers. -/
def rowT (r : List Int) : T 1 := (r.map Int.toNat : List Nat)
/-- The numbers of a row as arrays of depth nought. -/
def numT (r : List Int) : List (T 0) := (show List (T 0) from (r.map Int.toNat : List Nat))
theorem numT_snoc (r : List Int) (z : Int) : numT (r ++ [z]) = numT r ++ [(show T 0 from z.toNat)] := by
  show (r ++ [z]).map Int.toNat = r.map Int.toNat ++ [z.toNat]
  rw [List.map_append]
  rfl
theorem tR_map (R : List (List Int)) : tR R = (show T 2 from R.map rowT) := rfl
theorem text_tR {R : List (List Int)} (h : okR R) : (text 2 (tR R)).length ≤ 1000000000 := by
  have h0 : ∀ r : List Int, okN 10006 r = true → r.length ≤ 400 → (text 1 (rowT r)).length ≤ 2402 := fun r hr hl => by
    have e : text 1 (rowT r) = 91 :: (lst 0 (rowT r) ++ [93]) := text_succ 0 (rowT r)
    have h1 := lst_flat 0 (rowT r)
    have h2 := flat_leF 0 5 (rowT r) (fun t ht => by
      obtain ⟨z, hz, rfl⟩ := List.mem_map.1 ht
      have h9 := okN_mem hr hz
      exact dec_len 4 z.toNat (by omega))
    have h3 : List.length (rowT r) = r.length := List.length_map _
    have h4 : List.length (rowT r) * (5 + 1) ≤ 400 * 6 := Nat.mul_le_mul_right _ (by omega)
    rw [e]
    simp only [List.length_cons, List.length_append, List.length_nil]
    omega
  have e : text 2 (tR R) = 91 :: (lst 1 (R.map rowT) ++ [93]) := text_succ 1 (R.map rowT)
  have h1 := lst_flat 1 (R.map rowT)
  have h2 := flat_leF 1 2402 (R.map rowT) (fun t ht => by
    obtain ⟨r, hr, rfl⟩ := List.mem_map.1 ht
    exact h0 r (h.2 r hr).2 (h.2 r hr).1)
  rw [List.length_map] at h2
  have h4 : R.length * (2402 + 1) ≤ 400 * 2403 := Nat.mul_le_mul_right _ h.1
  rw [e]
  simp only [List.length_cons, List.length_append, List.length_nil]
  omega

set_option maxRecDepth 100000 in
set_option maxHeartbeats 4000000 in
theorem text_spec (A : Option Addr) (c : Nat) (R : List (List Int)) (w : World) (hA : Rws w A R) (hR : okR R) :
    Calls Tryz.prog 15 #[.slice A R.length c] w (FUPost (rowsX R) w) := by
  obtain ⟨i0, hi0, hz0, hz1, hz2⟩ := info_parts infoN
  have HA := Lib.hid hA
  have HTL := Lib.hid (fun (S : Nat → Prop) (m : Int) (A : Option Addr) (k c : Nat) (u : World) (hs : SNd u S 2 (tR R) (m, .slice A k c)) => told_any S 2 2 (tR R) m A k c u rfl (by omega) hs (text_tR hR))
  have HOKR := Lib.hid hR
  obtain ⟨n, hn⟩ : ∃ n, R.length = n := ⟨_, rfl⟩
  have HN := Lib.hid hn
  have hn4 : n ≤ 400 := by rw [← hn]; exact hR.1
  rw [hn]
  clear hA hR hn
  go_enter Tryz.func15, Tryz.ntmps15
  go_wp2_with fail
  have HM := Lib.hid (mlf_start w)
  generalize (w.alloc (.cells #[] 50)).alloc (.cells #[.int .i64 0, .slice (some ⟨w.heap.size, 0, none⟩) 0 0] 50) = w3 at HM ⊢
  go_loopw [6, 7, 9, 14] (fun _ _ _ i wr => ∃ (j : Nat) (sv : Value) (xs : List (Int × Value)), j ≤ n ∧ i = .int .i64 j ∧ Hid (xs.length = j) ∧ Hid (MLf w wr sv xs) ∧ Hid (MAll (d := 1) w wr sv ((R.take j).map rowT) xs)) (fun _ _ _ i _ => n - (intOf i).toNat)
  case atStart => exact ⟨0, _, [], Nat.zero_le _, rfl, Lib.hid rfl, HM, Lib.hid trivial⟩
  case round =>
    obtain ⟨j, sv, xs, hj, rfl, hxl, hml, hall⟩ := hrel
    obtain ⟨wo, rfl⟩ : ∃ x, x = wr := ⟨_, rfl⟩
    obtain ⟨A1, k1, c1, rfl⟩ := own_form hml.out.own
    by_cases hlt : j < n
    · obtain ⟨L, hL⟩ : ∃ L, R[j]? = some L := ⟨_, List.getElem?_eq_getElem (by have := HN.out; omega)⟩
      obtain ⟨b, off, rfl, _, hc⟩ := (HA.out.grown hml.out.gr) (by have := HN.out; omega)
      obtain ⟨Bj, cj, hcj, hlc, hij⟩ := hc j L hL
      have hokL := HOKR.out.2 L (List.mem_of_getElem? hL)
      have HOKL := Lib.hid hokL
      have HIJ := Lib.hid hij
      have HST := Lib.hid (show R.take (j + 1) = R.take j ++ [L] by rw [List.take_add_one, hL]; rfl)
      obtain ⟨q, hq⟩ : ∃ q, L.length = q := ⟨_, rfl⟩
      have HQ := Lib.hid hq
      have hq4 : q ≤ 400 := by rw [← hq]; exact hokL.1
      rw [hq] at hcj
      have HMP := Lib.hid (mlf_start wo)
      clear hc hL hij hokL hq hlc
      go_wp2_with fail
      generalize (wo.alloc (.cells #[] 50)).alloc (.cells #[.int .i64 0, .slice (some ⟨wo.heap.size, 0, none⟩) 0 0] 50) = wp at HMP ⊢
      go_loopw [9, 22] (fun _ i2 wr => ∃ (j2 : Nat) (sp : Value) (ys : List (Int × Value)), j2 ≤ q ∧ i2 = .int .i64 j2 ∧ Hid (ys.length = j2) ∧ Hid (MLf wo wr sp ys) ∧ Hid (MAll (d := 0) wo wr sp (numT (L.take j2)) ys)) (fun _ i2 _ => q - (intOf i2).toNat)
      case atStart => exact ⟨0, _, [], Nat.zero_le _, rfl, Lib.hid rfl, HMP, Lib.hid trivial⟩
      case round =>
        obtain ⟨j2, sp, ys, hj2, rfl, hyl, hmi, hai⟩ := hrel
        obtain ⟨A5, k5, c5, rfl⟩ := own_form hmi.out.own
        by_cases hlt2 : j2 < q
        · obtain ⟨z, hz⟩ : ∃ z, L[j2]? = some z := ⟨_, List.getElem?_eq_getElem (by have := HQ.out; omega)⟩
          obtain ⟨b2, off2, rfl, _, hc2⟩ := (HIJ.out.grown hmi.out.gr (by simp)) (by have := HQ.out; omega)
          have hcell := hc2 j2 z hz
          have hzb := okN_at hz HOKL.out.2
          have HZB := Lib.hid hzb
          have HZ := Lib.hid (show L.take (j2 + 1) = L.take j2 ++ [z] by rw [List.take_add_one, hz]; rfl)
          have hgA := World.grownBy_alloc wr (.cells #[.int .i64 z, .slice none 0 0] 50) none
          have HMA := Lib.hid (hmi.out.kept hgA)
          have HAA := Lib.hid (hai.out.kept hgA)
          have o1 := hmi.out.out.c1
          have ownA := HMA.out.own
          have hzs := hmi.out.size
          clear hc2 hz hgA
          go_wp2_with (at_builtin; refine wpList_append_lies _ rfl _ _ 48 rfl wo.heap.size 50 i0 _ 2 32 Tryz.underlying48 hi0 hz0 hz1 hz2 rfl (by omega) _ ys.length (flat2 ys) rfl ownA ⟨wr.heap.size, 0, none⟩ 1 1 [.int .i64 z, .slice none 0 0] rfl rfl ?c1 ?c2 (by omega) ?c3 ?c4 ?c5 (wr.heap.size + 1) ?c6 ?_)
          case c1 => exact World.news_of_block (cs := #[.int .i64 z, .slice none 0 0]) (t := 50) (fr := (0, 0)) (heap_alloc_new wr _)
          case c2 => simp [Value.oneCell']
          case c3 => simp only [maxLen]; have := hyl.out; omega
          case c4 => have := hyl.out; omega
          case c5 => simp; omega
          case c6 => simp
          intro gg cap w8 hown8 hg8 hat8 hlt8
          have hat9 : (Value.slice A5 k5 c5).ownBlock = some gg ∨ (wr.alloc (.cells #[.int .i64 z, .slice none 0 0] 50)).heap.size ≤ gg := by
            rcases hat8 with e | e
            · exact .inl e
            · exact .inr (by simp; omega)
          have HM8 := Lib.hid (HMA.out.step hown8 hg8 hat9)
          have HA8 := Lib.hid (MAll.step (d := 0) (t := z.toNat) (cap := cap) (lo := wo.heap.size + 2) HAA.out (Nat.le_refl _) (show SNd _ _ 0 z.toNat (z, .slice none 0 0) from ⟨by show z = ((z.toNat : Nat) : Int); have := HZB.out; omega, by show z.toNat < 10007; have := HZB.out; omega, _, _, _, rfl⟩) hg8 hat9)
          have ht8 := HMA.out.out.grown hg8 (fun e => HMA.out.ne e.symm)
          have o8 := ht8.c1
          have f8 := ht8.f 1
          clear hown8 hg8 hat8 hlt8 hat9 ht8 ownA o1
          go_wp2_with fail
          go_roundw
          case rel =>
            refine ⟨j2 + 1, _, ys ++ [(z, .slice none 0 0)], by omega, by go_num, Lib.hid (by rw [List.length_append, hyl.out]; rfl), HM8, Lib.hid ?_⟩
            rw [HZ.out, numT_snoc]
            exact HA8.out
          case measure => simp [intOf]; omega
        · have hjq : j2 = q := by omega
          have hta : L.take j2 = L := List.take_of_length_le (by have := HQ.out; omega)
          have hai2 := hai.out
          rw [hta] at hai2
          have HAI := Lib.hid hai2
          have hgA := (World.grownBy_alloc wr (.cells #[.int .i64 0, .slice A5 k5 c5] 50) none)
          have HMB := Lib.hid ((hml.out.kept hmi.out.gr).kept hgA)
          have HALL := Lib.hid ((hall.out.kept hmi.out.gr).kept hgA)
          have o1 := (hml.out.kept hmi.out.gr).out.c1
          have p0 := hmi.out.out.c0
          have p1 := hmi.out.out.c1
          have own5 := HMB.out.own
          have hlt5 := hml.out.own.lt
          have hos := hml.out.size
          have hns : wo.heap.size ≤ wr.heap.size := hmi.out.gr.size
          have HND := Lib.hid (show SNd (wr.alloc (.cells #[.int .i64 0, .slice A5 k5 c5] 50)) (fun b => wo.heap.size ≤ b ∧ (Value.slice A1 k1 c1).ownBlock ≠ some b) 1 (rowT L) (0, .slice A5 k5 c5) from
            SNd.keep (w := wr) (S := fun b => wo.heap.size ≤ b) (fun b _ hb => hgA.block b hb (by simp)) (fun b hb _ => ⟨hb, fun e => by have := (hlt5 b e).2; omega⟩) 1 _ _
              ⟨ys, own_base hmi.out.own (Nat.zero_le _), fun g hg => (hmi.out.own.lt g hg).1, All2.mono (SNd.keep (fun b _ _ => rfl) (fun b hb _ => by omega) 0) _ ys hai2⟩)
          clear hjq hta hai2 hgA
          go_wp2_with (at_builtin; refine wpList_append_lies _ rfl _ _ 48 rfl w.heap.size 50 i0 _ 2 32 Tryz.underlying48 hi0 hz0 hz1 hz2 rfl (by omega) _ xs.length (flat2 xs) rfl own5 ⟨wr.heap.size, 0, none⟩ 1 1 [.int .i64 0, .slice A5 k5 c5] rfl rfl ?c1 ?c2 (by omega) ?c3 ?c4 ?c5 (wr.heap.size + 1) ?c6 ?_)
          case c1 => exact World.news_of_block (cs := #[.int .i64 0, .slice A5 k5 c5]) (t := 50) (fr := (0, 0)) (heap_alloc_new wr _)
          case c2 => simp [Value.oneCell']
          case c3 => simp only [maxLen]; have := hxl.out; omega
          case c4 => have := hxl.out; omega
          case c5 => simp; omega
          case c6 => simp
          intro gg cap w8 hown8 hg8 hat8 hlt8
          have hat9 : (Value.slice A1 k1 c1).ownBlock = some gg ∨ (wr.alloc (.cells #[.int .i64 0, .slice A5 k5 c5] 50)).heap.size ≤ gg := by
            rcases hat8 with e | e
            · exact .inl e
            · exact .inr (by simp; omega)
          have HM8 := Lib.hid (HMB.out.step hown8 hg8 hat9)
          have HA8 := Lib.hid (MAll.step (d := 1) (t := rowT L) (cap := cap) (lo := wo.heap.size) HALL.out hos HND.out hg8 hat9)
          have ht8 := HMB.out.out.grown hg8 (fun e => HMB.out.ne e.symm)
          have o8 := ht8.c1
          have f8 := ht8.f 1
          clear hown8 hg8 hat8 hlt8 hat9 ht8 own5 o1 p0 p1
          go_wp2_with fail
          go_roundw
          case rel =>
            refine ⟨j + 1, _, xs ++ [(0, .slice A5 k5 c5)], by omega, by go_num, Lib.hid (by rw [List.length_append, hxl.out]; rfl), HM8, Lib.hid ?_⟩
            rw [HST.out, List.map_append]
            exact HA8.out
          case measure => simp [intOf]; omega
    · have hjn : j = n := by omega
      have ht : (R.take j).map rowT = R.map rowT := by rw [List.take_of_length_le (by have := HN.out; omega)]
      have hal := hall.out
      rw [ht] at hal
      have hnd : SNd wo (fun _ => True) 2 (tR R) (0, .slice A1 k1 c1) := by
        refine ⟨xs, own_base hml.out.own (Nat.zero_le _), fun _ _ => trivial, ?_⟩
        exact All2.mono (SNd.keep (fun _ _ _ => rfl) (fun _ _ _ => trivial) 1) (R.map rowT) xs hal
      have HT := Lib.hid (HTL.out _ 0 A1 k1 c1 wo hnd)
      have o0 := hml.out.out.c0
      have o1 := hml.out.out.c1
      have HG := Lib.hid hml.out.gr
      obtain ⟨X, hX⟩ : ∃ X, text 2 (tR R) = X := ⟨_, rfl⟩
      have HXX := Lib.hid (show rowsX R = if X.length ≤ 400 then some X else none by unfold rowsX; rw [hX])
      unfold ToldPost at HT
      rw [hX] at HT
      obtain ⟨ok, hok⟩ : ∃ b, decide (X.length ≤ 400) = b := ⟨_, rfl⟩
      have HOK := Lib.hid hok
      rw [hok] at HT
      clear hjn ht hal hnd hX hok
      go_wp2_with fail
      refine HT.out.mono ?_
      rintro e w6 ⟨hg6, u, rfl, hu⟩
      have HG6 := Lib.hid (HG.out.trans hg6)
      have HU := Lib.hid hu
      clear hg6 hu
      go_wp2_with fail
      go_ret2
      rw [HXX.out]
      refine ⟨⟨u, ?_, ?_⟩, HG6.out⟩
      · rw [← HOK.out]
        by_cases h4 : X.length ≤ 400
        · rw [if_pos h4, decide_eq_true h4]; rfl
        · rw [if_neg h4, decide_eq_false h4]; rfl
      · rw [HU.out]
        by_cases h4 : X.length ≤ 400
        · rw [if_pos h4, if_pos h4]; rfl
        · rw [if_neg h4, if_neg h4]; rfl
end

/- SlMax -/
section
open Go.RowKit

set_option maxHeartbeats 400000 in
theorem slmax_any (A : Option Addr) (c : Nat) (L : List Int) (w : World) (h : Ints w A L) (h0 : 0 < L.length) (hn : L.length ≤ 1099511627776) :
    Calls Tryz.prog 53 #[.slice A L.length c] w fun e w' => e = .returned (.int .i64 (maxI L)) ∧ w = w' := by
  obtain ⟨b, off, rfl, _, hc⟩ := h h0
  have HC := Lib.hid hc
  obtain ⟨z0, hz0⟩ : ∃ z, L[0]? = some z := ⟨_, List.getElem?_eq_getElem h0⟩
  have hc0 := hc 0 z0 hz0
  rw [Nat.add_zero] at hc0
  have HZ0 : Hid (z0 = maxI (L.take 1)) := Lib.hid (by cases L with | nil => simp at h0 | cons y l => simp at hz0; simp [maxI, hz0])
  obtain ⟨n, hnn⟩ : ∃ n, L.length = n := ⟨_, rfl⟩
  have HN := Lib.hid hnn
  rw [hnn] at h0 hn ⊢
  clear hc hnn hz0
  go_enter Tryz.func53, Tryz.ntmps53
  go_wp2_with fail
  go_loop [3, 4] (fun u i => ∃ (j : Nat) (x : Int), 1 ≤ j ∧ j ≤ n ∧ i = .int .i64 j ∧ u = .int .i64 x ∧ Hid (x = maxI (L.take j))) (fun _ i => n - (intOf i).toNat)
  case atStart => exact ⟨1, z0, Nat.le_refl _, by omega, rfl, rfl, HZ0⟩
  case round =>
    obtain ⟨j, x, hj1, hj, rfl, rfl, hx⟩ := hrel
    by_cases hlt : j < n
    · obtain ⟨z, hz⟩ : ∃ z, L[j]? = some z := ⟨_, List.getElem?_eq_getElem (by have := HN.out; omega)⟩
      have hcell := HC.out j z hz
      have HST := Lib.hid (maxI_step hj1 hz)
      clear hz hc0
      go_wp2_with fail
      all_goals
        go_round
        case rel =>
          refine ⟨j + 1, _, by omega, by omega, by go_num, rfl, Lib.hid ?_⟩
          have h9 := HST.out
          have h8 := hx.out
          omega
        case measure => simp [intOf]; omega
    · have hjn : j = n := by omega
      have HJ := Lib.hid hjn
      clear hjn hc0
      go_wp2_with fail
      go_ret
      refine ⟨?_, rfl⟩
      rw [hx.out, HJ.out, ← HN.out, List.take_length]
      rfl
end

end Go.Proofs.YtachjodnhgmoiaaGreatDoor
