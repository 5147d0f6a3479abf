/- What the model's MakeArray does: the same as the program's. -/
import Derived.Test.YtjcbhjldanakeabMkImpl
import Derived.Test.YtjcbhjldanakeabTold
import Derived.Test.YtjcbhjldanakeabSText
import Derived.Deep.AppendLies
namespace Go.Proofs.Ytjcbhjldanakeab
open Go.RowKit

theorem readN_bytes {s : ByteArray} {d : Nat} {t : T d} (h : readN s d = some t) : s.data.toList = text d t := by
  unfold readN at h
  split at h
  · cases h
  · rename_i t' q hn
    split at h
    · rename_i hq
      cases h
      rw [← sub_all s, ← hq]
      exact sub_node s d 0 t q hn
    · cases h

/-- The parts' arrays, in order. -/
def Rds (d : Nat) (ss : List ByteArray) (ts : List (T d)) : Prop := All2 (fun s t => readN s d = some t) ss ts

theorem rds_tail {d : Nat} : ∀ {ss : List ByteArray} {ts : List (T d)}, Rds d ss ts → Lib.joinTail [44] (ss.map (·.data.toList)) = ts.flatMap (fun x => 44 :: text d x)
  | [], [], _ => rfl
  | s :: ss, t :: ts, ⟨h1, h2⟩ => by
    have ih := rds_tail h2
    unfold Lib.joinTail at ih ⊢
    simp only [List.map_cons, List.flatten_cons, List.flatMap_cons, ih, readN_bytes h1]
    rfl
  | [], _ :: _, h => h.elim
  | _ :: _, [], h => h.elim
theorem rds_text {d : Nat} : ∀ {ss : List ByteArray} {ts : List (T d)}, Rds d ss ts → text (d + 1) ts = mkText ss
  | [], [], _ => by rw [text_succ]; rfl
  | s :: ss, t :: ts, ⟨h1, h2⟩ => by
    rw [text_succ]
    unfold mkText
    rw [List.map_cons, Lib.join_cons, rds_tail h2, readN_bytes h1]
    rfl
  | [], _ :: _, h => h.elim
  | _ :: _, [], h => h.elim

theorem mkText_len (ss : List ByteArray) : (mkText ss).length = 2 + (ss.length - 1) + tot ss := by
  unfold mkText
  have := join_len ss
  simp only [List.length_cons, List.length_append, List.length_nil]
  omega

theorem sread_false {s : ByteArray} {m : Int} (h : isArr s m = false) (w : World) : Calls Try.prog 48 #[.string s, .int .i64 m] w (SReadNo w) := by
  by_cases hr : 0 ≤ m ∧ m ≤ 3 ∧ s.size ≤ 400
  · have hn : readN s m.toNat = none := by
      unfold isArr at h
      simp [hr] at h
      cases hd : readN s m.toNat with
      | none => rfl
      | some t => rw [hd] at h; simp at h
    have := sread_in m m.toNat s w (by omega) hr.1 hr.2.1 hr.2.2
    refine this.mono fun e w' hp => ?_
    unfold SReadPost at hp
    rw [hn] at hp
    exact hp
  · exact sread_out m s w (by omega)

/-- How l1Read ends with an array. -/
def SReadYes (d : Nat) (t : T d) (w : World) (e : Ending) (w' : World) : Prop := ∃ m A k c, e = .returned (.tuple #[.agg #[.int .i64 m, .slice A k c], .bool true]) ∧ w.grownBy w' none ∧ SNd w' (fun b => w.heap.size ≤ b) d t (m, .slice A k c)
theorem sread_true {s : ByteArray} {m : Int} {d : Nat} (hm : m = d) (h : isArr s m = true) : ∃ t, readN s d = some t ∧ ∀ w, Calls Try.prog 48 #[.string s, .int .i64 m] w (SReadYes d t w) := by
  unfold isArr at h
  simp only [Bool.and_eq_true, decide_eq_true_eq] at h
  obtain ⟨⟨h0, h3, hs⟩, h⟩ := h
  have hd : m.toNat = d := by omega
  rw [hd] at h
  obtain ⟨t, ht⟩ := Option.isSome_iff_exists.1 h
  refine ⟨t, ht, fun w => (sread_in m d s w hm h0 h3 hs).mono fun e w' hp => ?_⟩
  unfold SReadPost at hp
  rw [ht] at hp
  obtain ⟨m2, sv, he, ⟨A, k, c, rfl⟩, hg, hnd⟩ := hp
  exact ⟨m2, A, k, c, he, hg, hnd⟩

/-- What holds of the memory while MakeArray gathers nodes. -/
structure MLf (w wr : World) (sv : Value) (xs : List (Int × Value)) : Prop where
  gr : w.grownBy wr none
  size : w.heap.size + 2 ≤ wr.heap.size
  out : Two wr (w.heap.size + 1) (.int .i64 0) sv
  own : wr.ownsRow w.heap.size 63 2 sv xs.length (flat2 xs)
  ne : sv.ownBlock ≠ some (w.heap.size + 1)
def MAll (d : Nat) (w wr : World) (sv : Value) (ts : List (T d)) (xs : List (Int × Value)) : Prop := All2 (SNd wr (fun b => w.heap.size + 2 ≤ b ∧ sv.ownBlock ≠ some b) d) ts xs

theorem mlf_start (w : World) : MLf w ((w.alloc (.cells #[] 63)).alloc (.cells #[.int .i64 0, .slice (some ⟨w.heap.size, 0, none⟩) 0 0] 63)) (.slice (some ⟨w.heap.size, 0, none⟩) 0 0) [] := by
  refine ⟨(World.grownBy_alloc _ _ _).trans (World.grownBy_alloc _ _ _), by simp, two_new _ _ _ (by simp), ?_, by simp [Value.ownBlock]⟩
  exact (World.ownsRow_made (base := w.heap.size) (e := 63) (size := 2) w #[] 0 (by omega) (by simp) (by simp)).alloc _

section
variable {d : Nat} {w wr : World} {sv : Value} {ts : List (T d)} {xs : List (Int × Value)}
theorem MLf.kept (h : MLf w wr sv xs) {we : World} (hg : wr.grownBy we none) : MLf w we sv xs :=
  ⟨h.gr.trans hg, Nat.le_trans h.size hg.size, h.out.grown hg (by simp), own_keep h.own (fun k hk => hg.block k (h.own.lt k hk).2 (by simp)), h.ne⟩
theorem MAll.kept (h : MAll d w wr sv ts xs) {we : World} (hg : wr.grownBy we none) : MAll d w we sv ts xs :=
  All2.mono (SNd.keep (fun b _ hb => hg.block b hb (by simp)) (fun b hb _ => hb) d) ts xs h
/-- A node more: read (world we), boxed and appended (world w2), the variable written. -/
theorem MLf.step (h : MLf w wr sv xs) {m : Int} {v : Value} {w2 : World} {gg cap : Nat}
    (hown : w2.ownsRow w.heap.size 63 2 (.slice (some ⟨gg, 0, none⟩) (xs.length + 1) cap) (xs.length + 1) (flat2 xs ++ [.int .i64 m, v])) (hg2 : wr.grownBy w2 sv.ownBlock)
    (hat : sv.ownBlock = some gg ∨ wr.heap.size ≤ gg) :
    MLf w (w2.setCell ⟨w.heap.size + 1, 1, none⟩ (.slice (some ⟨gg, 0, none⟩) (xs.length + 1) cap)) (.slice (some ⟨gg, 0, none⟩) (xs.length + 1) cap) (xs ++ [(m, v)]) := by
  have hsw := h.gr.size
  have hs2 := hg2.size
  have hs3 := h.size
  have hlt := h.own.lt
  have hgg : gg ≠ w.heap.size + 1 ∧ w.heap.size ≤ gg := by
    rcases hat with e | e
    · exact ⟨fun e2 => h.ne (by rw [e, e2]), (hlt gg e).1⟩
    · exact ⟨by omega, by omega⟩
  have hg3 : w.grownBy w2 none := ⟨hg2.os.trans h.gr.os, hg2.tape.trans h.gr.tape, hg2.output.trans h.gr.output, Nat.le_trans h.gr.size hg2.size, fun k hk hne =>
    (hg2.block k (Nat.lt_of_lt_of_le hk h.gr.size) (fun e => by have := (hlt k e.symm).1; omega)).trans (h.gr.block k hk hne)⟩
  refine ⟨gr_set_new hg3 (by omega) _, by have := (gr_set w2 (w.heap.size + 1) 1 (.slice (some ⟨gg, 0, none⟩) (xs.length + 1) cap)).size; omega, ?_, ?_, ?_⟩
  · exact (h.out.grown hg2 (fun e => h.ne e.symm)).set1 _
  · rw [flat2_snoc, List.length_append]
    exact own_keep hown (fun k hk => Below.heap_setCell _ _ _ _ (by simp [Value.ownBlock] at hk; subst hk; exact hgg.1))
  · simpa [Value.ownBlock] using hgg.1
theorem MAll.step (hall : MAll d w wr sv ts xs) {m : Int} {v : Value} {t : T d} {w2 : World} {gg cap lo : Nat} (hlo : w.heap.size + 2 ≤ lo)
    (hnd : SNd wr (fun b => lo ≤ b ∧ sv.ownBlock ≠ some b) d t (m, v)) (hg2 : wr.grownBy w2 sv.ownBlock) (hat : sv.ownBlock = some gg ∨ wr.heap.size ≤ gg) :
    MAll d w (w2.setCell ⟨w.heap.size + 1, 1, none⟩ (.slice (some ⟨gg, 0, none⟩) (xs.length + 1) cap)) (.slice (some ⟨gg, 0, none⟩) (xs.length + 1) cap) (ts ++ [t]) (xs ++ [(m, v)]) := by
  have hset : ∀ b, w.heap.size + 2 ≤ b → (w2.setCell ⟨w.heap.size + 1, 1, none⟩ (.slice (some ⟨gg, 0, none⟩) (xs.length + 1) cap)).heap[b]? = w2.heap[b]? := fun b hb => Below.heap_setCell _ _ _ _ (by show b ≠ w.heap.size + 1; omega)
  have hne : ∀ b, sv.ownBlock ≠ some b → b < wr.heap.size → (Value.slice (some ⟨gg, 0, none⟩) (xs.length + 1) cap).ownBlock ≠ some b := by
    intro b hb hb2 e
    simp only [Value.ownBlock, Option.some.injEq] at e
    rcases hat with e2 | e2
    · exact hb (e2.trans (by rw [e]))
    · omega
  refine All2.snoc ?_ ts xs ?_
  · refine SNd.keep ?_ ?_ d t (m, v) hnd
    · rintro b ⟨hb1, hb2⟩ hb
      rw [hset b (by omega), hg2.block b hb (fun e => hb2 e.symm)]
    · rintro b ⟨hb1, hb2⟩ hb
      exact ⟨by omega, hne b hb2 hb⟩
  · refine All2.mono (SNd.keep ?_ ?_ d) ts xs hall
    · rintro b ⟨hb1, hb2⟩ hb
      rw [hset b hb1, hg2.block b hb (fun e => hb2 e.symm)]
    · rintro b ⟨hb1, hb2⟩ hb
      exact ⟨hb1, hne b hb2 hb⟩
end

theorem rds_snoc {d j : Nat} {ss : List ByteArray} {ts : List (T d)} {s : ByteArray} {t : T d} (h : Rds d (ss.take j) ts) (hj : ss[j]? = some s) (ht : readN s d = some t) : Rds d (ss.take (j + 1)) (ts ++ [t]) := by
  rw [List.take_add_one, hj]
  exact All2.snoc (R := fun s t => readN s d = some t) ht _ _ h

theorem infoM : (Try.prog.info? 63).map (fun i => (i.zero, i.size, i.bytes)) = some (some (.agg #[.int .i64 0, .slice none 0 0]), 2, 32) := by kernel_rfl

set_option maxHeartbeats 1000000 in
theorem mkspec_any (A : Option Addr) (c : Nat) (n : Int) (ss : List ByteArray) (w : World) (h : Strs w A ss) (hlen : ss.length ≤ 1048576) (htot : tot ss ≤ 1048576) :
    Calls Try.prog 14 #[.slice A ss.length c, .int .i64 n] w (MkPost ss n w) := by
  obtain ⟨i0, hi0, hz0, hz1, hz2⟩ := info_parts infoM
  have HS := Lib.hid h
  obtain ⟨N, hN⟩ : ∃ N, ss.length = N := ⟨_, rfl⟩
  have HN := Lib.hid hN
  rw [hN] at hlen ⊢
  have HT := Lib.hid htot
  clear h hN htot
  obtain ⟨b1, hb1⟩ : ∃ b1 : Bool, decide (1 ≤ n ∧ n ≤ 3) = b1 := ⟨_, rfl⟩
  have HI := Lib.hid (fun w => in_any n 1 3 b1 hb1 w)
  cases b1
  · have HR := Lib.hid (of_decide_eq_false hb1)
    clear hb1 hi0 hz0 hz1 hz2
    go_enter Try.func14, Try.ntmps14
    go_wp2_with fail
    refine (HI.out _).mono ?_
    rintro e w1 ⟨rfl, rfl⟩
    go_wp2_with fail
    go_ret2
    exact mk_no (mk_range HR.out) ((World.grownBy_alloc _ _ _).trans (World.grownBy_alloc _ _ _)) rfl
  · have hr := of_decide_eq_true hb1
    obtain ⟨d, hd⟩ : ∃ d : Nat, n - 1 = d := ⟨(n - 1).toNat, by omega⟩
    have HD := Lib.hid hd
    have HR := Lib.hid hr
    obtain ⟨hr1, hr2⟩ := hr
    clear hb1 hd
    go_enter Try.func14, Try.ntmps14
    go_wp2_with fail
    refine (HI.out _).mono ?_
    rintro e w1 ⟨rfl, rfl⟩
    go_wp2_with fail
    have HM := Lib.hid (mlf_start w)
    generalize (w.alloc (.cells #[] 63)).alloc (.cells #[.int .i64 0, .slice (some ⟨w.heap.size, 0, none⟩) 0 0] 63) = w3 at HM
    go_loopw [18] (fun i wr => ∃ (j : Nat) (sv : Value) (ts : List (T d)) (xs : List (Int × Value)), j ≤ N ∧ i = .int .i64 j ∧ Hid (xs.length = j) ∧ Hid (Rds d (ss.take j) ts) ∧ Hid (MLf w wr sv xs) ∧ Hid (MAll d w wr sv ts xs) ∧ Hid (∀ s ∈ ss.take j, isArr s (n - 1) = true)) (fun i _ => N - (intOf i).toNat)
    case atStart => exact ⟨0, _, [], [], Nat.zero_le _, rfl, Lib.hid rfl, Lib.hid (by simp [Rds, All2]), HM, Lib.hid trivial, Lib.hid (by simp)⟩
    case round =>
      obtain ⟨j, sv, ts, xs, hj, rfl, hxl, hrd, hml, hall, hok⟩ := hrel
      obtain ⟨A1, k1, c1, rfl⟩ := own_form hml.out.own
      by_cases hlt : j < N
      · obtain ⟨s, hs⟩ : ∃ s, ss[j]? = some s := ⟨_, List.getElem?_eq_getElem (by have := HN.out; omega)⟩
        obtain ⟨b, off, rfl, hb, hcc⟩ := (HS.out.grown hml.out.gr) (by have := HN.out; omega)
        have hcell := hcc j s hs
        have HST := Lib.hid hs
        clear hcc hs
        have hjx : j = xs.length := hxl.out.symm
        have HJX := Lib.hid hjx
        clear hjx
        obtain ⟨bb, hbb⟩ : ∃ bb, isArr s (n - 1) = bb := ⟨_, rfl⟩
        have HBB := Lib.hid hbb
        clear hbb
        cases bb
        · go_wp2_with fail
          refine (sread_false HBB.out _).mono ?_
          rintro e w5 ⟨rfl, hg5⟩
          have HG5 := Lib.hid (hml.out.gr.trans hg5)
          clear hg5
          go_wp2_with fail
          go_ret2
          exact mk_no (mk_part HST.out HBB.out) (HG5.out.trans (World.grownBy_alloc _ _ _)) rfl
        · obtain ⟨t, ht, hcall⟩ := sread_true HD.out HBB.out
          have HTT := Lib.hid ht
          have HCALL := Lib.hid hcall
          clear ht hcall
          go_wp2_with fail
          refine (HCALL.out _).mono ?_
          rintro e w5 ⟨m5, A5, k5, c5, rfl, hg5, hnd5⟩
          have hgA := hg5.trans (World.grownBy_alloc w5 (.cells #[.int .i64 m5, .slice A5 k5 c5] 63) none)
          have hgB := hgA.trans (World.grownBy_alloc _ (.cells #[.int .i64 m5, .slice A5 k5 c5] 63) none)
          have hmA := hml.out.kept hgA
          have hmB := hml.out.kept hgB
          have HMB := Lib.hid hmB
          have o1 := hmA.out.c1
          have own5 := hmB.own
          have hzB := hmB.size
          simp at hzB
          have HALL := Lib.hid (hall.out.kept hgB)
          have hlo := hml.out.size
          have hlt5 := hml.out.own.lt
          have HND := Lib.hid (show SNd ((w5.alloc (.cells #[.int .i64 m5, .slice A5 k5 c5] 63)).alloc (.cells #[.int .i64 m5, .slice A5 k5 c5] 63)) (fun b => wr.heap.size ≤ b ∧ (Value.slice A1 k1 c1).ownBlock ≠ some b) d t (m5, .slice A5 k5 c5) from
            SNd.keep (fun b _ hb => ((World.grownBy_alloc w5 _ none).trans (World.grownBy_alloc _ _ none)).block b hb (by simp)) (fun b hb _ => ⟨hb, fun e => by have := (hlt5 b e).2; omega⟩) d t _ hnd5)
          have hgr5 := hg5.size
          clear hg5 hnd5 hgA hgB hmA hmB hlt5
          go_wp2_with (at_builtin; refine wpList_append_lies _ rfl _ _ 61 rfl w.heap.size 63 i0 _ 2 32 Try.underlying61 hi0 hz0 hz1 hz2 rfl (by omega) _ xs.length (flat2 xs) rfl own5 ⟨w5.heap.size + 1, 0, none⟩ 1 1 [.int .i64 m5, .slice A5 k5 c5] rfl rfl ?c1 ?c2 (by omega) ?c3 ?c4 ?c5 (w5.heap.size + 1 + 1) ?c6 ?_)
          case c1 => exact World.news_of_block (cs := #[.int .i64 m5, .slice A5 k5 c5]) (t := 63) (fr := (0, 0)) (by have := heap_alloc_new (w5.alloc (.cells #[.int .i64 m5, .slice A5 k5 c5] 63)) (.cells #[.int .i64 m5, .slice A5 k5 c5] 63); simpa using this)
          case c2 => simp [Value.oneCell']
          case c3 => simp only [maxLen]; have := HJX.out; omega
          case c4 => have := HJX.out; omega
          case c5 => simp; omega
          case c6 => simp
          intro gg cap w8 hown8 hg8 hat8 hlt8
          have hat9 : (Value.slice A1 k1 c1).ownBlock = some gg ∨ ((w5.alloc (.cells #[.int .i64 m5, .slice A5 k5 c5] 63)).alloc (.cells #[.int .i64 m5, .slice A5 k5 c5] 63)).heap.size ≤ gg := by
            rcases hat8 with e | e
            · exact .inl e
            · exact .inr (by simp; omega)
          have HM8 := Lib.hid (HMB.out.step hown8 hg8 hat9)
          have HA8 := Lib.hid (MAll.step (cap := cap) HALL.out hlo HND.out hg8 hat9)
          have ht8 := HMB.out.out.grown hg8 (fun e => HMB.out.ne e.symm)
          have o8 := ht8.c1
          have f8 := ht8.f 1
          clear hown8 hg8 hat8 hlt8 hat9 ht8 own5 hzB o1
          go_wp2_with fail
          go_roundw
          case rel =>
            refine ⟨j + 1, _, ts ++ [t], xs ++ [(m5, .slice A5 k5 c5)], by omega, by go_num, Lib.hid ?_, Lib.hid (rds_snoc hrd.out HST.out HTT.out), HM8, HA8, Lib.hid ?_⟩
            · rw [List.length_append, hxl.out]; rfl
            · intro s' hs'
              rw [List.take_add_one, HST.out] at hs'
              rcases List.mem_append.1 hs' with h | h
              · exact hok.out s' h
              · simp at h; rw [h]; exact HBB.out
          case measure => simp [intOf]; omega
      · have hjn : j = N := by omega
        have ht : ss.take j = ss := List.take_of_length_le (by have := HN.out; omega)
        have hrd2 := hrd.out
        rw [ht] at hrd2
        have htx := rds_text hrd2
        have hml2 := mkText_len ss
        have hok2 := hok.out
        rw [ht] at hok2
        have hnd : SNd wr (fun _ => True) (d + 1) ts (0, .slice A1 k1 c1) := by
          refine ⟨xs, own_base hml.out.own (Nat.zero_le _), fun _ _ => trivial, ?_⟩
          exact All2.mono (SNd.keep (fun _ _ _ => rfl) (fun _ _ _ => trivial) d) ts xs hall.out
        have HTOLD := Lib.hid (told_any (fun _ => True) (d + 1) n ts 0 A1 k1 c1 wr (by have := HD.out; omega) (by have := HD.out; omega) hnd (by rw [htx, hml2]; have := HN.out; have := HT.out; omega))
        have HTX := Lib.hid htx
        have HML := Lib.hid hml2
        have HOK := Lib.hid hok2
        have o0 := hml.out.out.c0
        have o1 := hml.out.out.c1
        clear hjn ht hrd2 htx hml2 hok2 hnd
        go_wp2_with fail
        refine HTOLD.out.mono ?_
        rintro e w6 ⟨hg6, u, rfl, hu⟩
        have hb : decide ((text (d + 1) ts).length ≤ 400) = mkOk ss n := by
          rw [HTX.out, HML.out]
          by_cases h4 : 2 + (ss.length - 1) + tot ss ≤ 400
          · rw [decide_eq_true h4, mk_all HR.out HOK.out h4]
          · rw [decide_eq_false h4, mk_long (by omega)]
        have HU := Lib.hid hu
        obtain ⟨bq, hq⟩ : ∃ bq, mkOk ss n = bq := ⟨_, rfl⟩
        rw [hq] at hb
        have HBQ := Lib.hid hb
        have HQ := Lib.hid hq
        rw [hb]
        clear hq
        have HG6 := Lib.hid (hml.out.gr.trans hg6)
        clear hu hb hg6
        go_wp2_with fail
        go_ret2
        refine ⟨HG6.out, u, by rw [HQ.out]; rfl, ?_⟩
        have h1 := HU.out
        have h2 := HBQ.out
        rw [HQ.out]
        cases bq
        · rw [if_neg (of_decide_eq_false h2)] at h1
          simpa using h1
        · rw [if_pos (of_decide_eq_true h2), HTX.out] at h1
          simpa using h1

end Go.Proofs.Ytjcbhjldanakeab
