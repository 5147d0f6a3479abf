/- What the model's l1Numbers and NumbersOf do: all numbers of the array, in order, in a new row. -/
import Derived.Test.YtjcbhjldanakeabSText
import Derived.Test.YtjcbhjldanakeabInts
import Derived.Test.YtjcbhjldanakeabMkSpec
namespace Go.Proofs.Ytjcbhjldanakeab
open Go.RowKit

/-- All numbers of an array. -/
def nums : (d : Nat) → T d → List Int
  | 0, n => [((show Nat from n : Nat) : Int)]
  | d + 1, ts => (show List (T d) from ts).flatMap (nums d)
theorem nums_succ (d : Nat) (ts : List (T d)) : nums (d + 1) ts = ts.flatMap (nums d) := rfl

theorem gr_row {w w1 w2 : World} {row : Option Nat} (h : w.grownBy w1 none) (h2 : w1.grownBy w2 row) (hr : ∀ k, row = some k → w.heap.size ≤ k) : w.grownBy w2 none :=
  ⟨h2.os.trans h.os, h2.tape.trans h.tape, h2.output.trans h.output, Nat.le_trans h.size h2.size, fun k hk hne => (h2.block k (Nat.lt_of_lt_of_le hk h.size) (fun e => by have := hr k e.symm; omega)).trans (h.block k hk hne)⟩

/-- A new row of ints. -/
def NewInts (zs : List Int) (w : World) (v : Value) (w' : World) : Prop := ∃ g c, v = .slice (some ⟨g, 0, none⟩) zs.length c ∧ w.grownBy w' none ∧ w'.ownsRow w.heap.size 3 1 (.slice (some ⟨g, 0, none⟩) zs.length c) zs.length (zs.map (Value.int .i64))
def NumsPost (zs : List Int) (w : World) (e : Ending) (w' : World) : Prop := ∃ v, e = .returned v ∧ NewInts zs w v w'

theorem infoI : (Try.prog.info? 3).map (fun i => (i.zero, i.size, i.bytes)) = some (some (.int .i64 0), 1, 8) := by kernel_rfl

set_option maxHeartbeats 400000 in
theorem snums0 (t : T 0) (m : Int) (A : Option Addr) (k c : Nat) (S : Nat → Prop) (w : World) (h : SNd w S 0 t (m, .slice A k c)) :
    Calls Try.prog 53 #[.agg #[.int .i64 m, .slice A k c], .int .i64 0] w (NumsPost (nums 0 t) w) := by
  have hm : [m] = nums 0 t := by show [m] = [((show Nat from t : Nat) : Int)]; rw [← h.1]
  rw [← hm]
  clear hm h
  go_enter Try.func53, Try.ntmps53
  go_wp2_with fail
  go_ret
  refine ⟨_, rfl, w.heap.size + 1, 1, rfl, (World.grownBy_alloc _ _ _).trans (World.grownBy_alloc _ _ _), ?_⟩
  have := World.ownsRow_lit (base := w.heap.size) (e := 3) (size := 1) (w.alloc (.cells #[.int .i64 m, .slice A k c] 63)) #[.int .i64 m] 1 (by simp) (by simp [maxLen]) (by simp)
  simpa using this

set_option maxHeartbeats 1000000 in
theorem snumsS (d : Nat) (n : Int) (ts : List (T d)) (m : Int) (A : Option Addr) (k c : Nat) (S : Nat → Prop) (w : World) (h : SNd w S (d + 1) ts (m, .slice A k c)) (hn1 : 1 ≤ n) (hn2 : n ≤ 1000) (hl : (ts.flatMap (nums d)).length ≤ 1000000) (hk : k ≤ 1000000)
    (ih : ∀ (t : T d) (m : Int) (A : Option Addr) (k c : Nat) (w : World), t ∈ ts → SNd w S d t (m, .slice A k c) → Calls Try.prog 53 #[.agg #[.int .i64 m, .slice A k c], .int .i64 (n - 1)] w (NumsPost (nums d t) w)) :
    Calls Try.prog 53 #[.agg #[.int .i64 m, .slice A k c], .int .i64 n] w (NumsPost (nums (d + 1) ts) w) := by
  obtain ⟨i0, hi0, hz0, hz1, hz2⟩ := info_parts infoI
  obtain ⟨xs, ho, hS, ha⟩ := h
  obtain ⟨hkx, hkc, hrow⟩ := srow ho
  have HA := Lib.hid ha
  have HROW := Lib.hid hrow
  have HI := Lib.hid ih
  have HL := Lib.hid hl
  have HKX := Lib.hid hkx
  have HLEN := Lib.hid (All2.length ts xs ha)
  clear ho hS ha hrow ih hl hkx
  have e0 : (n == 0) = false := by rw [beq_eq_false_iff_ne]; omega
  go_enter Try.func53, Try.ntmps53
  go_wp2_with fail
  clear e0
  go_loopw [17, 5] (fun i u wr => ∃ (j q : Nat) (A1 : Option Addr) (c1 : Nat), j ≤ k ∧ i = .int .i64 j ∧ u = .slice A1 q c1 ∧ Hid (q = ((ts.take j).flatMap (nums d)).length) ∧ Hid (∃ g, A1 = some ⟨g, 0, none⟩) ∧ Hid (wr.ownsRow w.heap.size 3 1 (.slice A1 q c1) q (((ts.take j).flatMap (nums d)).map (Value.int .i64))) ∧ Hid (w.grownBy wr none)) (fun i _ _ => k - (intOf i).toNat)
  case atStart =>
    refine ⟨0, 0, some ⟨w.heap.size + 1, 0, none⟩, 0, Nat.zero_le _, rfl, rfl, Lib.hid (by simp), Lib.hid ⟨_, rfl⟩, Lib.hid ?_, Lib.hid ((World.grownBy_alloc _ _ _).trans (World.grownBy_alloc _ _ _))⟩
    have := World.ownsRow_made (base := w.heap.size) (e := 3) (size := 1) (w.alloc (.cells #[.int .i64 m, .slice A k c] 63)) #[] 0 (by simp) (by simp) (by simp)
    simpa using this
  case round =>
    obtain ⟨j, q, A1, c1, hj, rfl, rfl, hq, hg1, ho1, hgr⟩ := hrel
    by_cases hlt : j < k
    · obtain ⟨g, rfl, hgw, hcells⟩ := HROW.out (by omega)
      obtain ⟨t, x, htj, hxj, hr⟩ := All2.at_ (j := j) HA.out (by have := HKX.out; omega)
      have hx := hcells j x hxj
      obtain ⟨m2, sv2⟩ := x
      obtain ⟨A2, k2, c2, hsv⟩ := hr.form
      simp only at hsv hx
      subst hsv
      have h1 := hgr.out.cell hx.1 (by simp)
      have h2 := hgr.out.cell hx.2 (by simp)
      have HR := Lib.hid hr
      have HT := Lib.hid htj
      have HMEM := Lib.hid (List.mem_of_getElem? htj)
      clear hx hxj hr htj hcells
      have wn : IntKind.i64.wrap (n - 1) = n - 1 := IntWalk.i64_in _ (by omega)
      have HK := Lib.hid (SNd.keep (w' := wr.alloc (.cells #[.int .i64 m2, .slice A2 k2 c2] 63)) (fun b _ hb => ((hgr.out.trans (World.grownBy_alloc wr _ none)).block b hb (by simp))) (fun b hb _ => hb) d t _ HR.out)
      have hstep : (ts.take (j + 1)).flatMap (nums d) = (ts.take j).flatMap (nums d) ++ nums d t := by
        rw [List.take_add_one, HT.out, List.flatMap_append]; simp
      have hle : ((ts.take (j + 1)).flatMap (nums d)).length ≤ 1000000 := by
        have e : ts.take (j + 1) ++ ts.drop (j + 1) = ts := List.take_append_drop _ _
        have h3 := HL.out
        rw [← e, List.flatMap_append, List.length_append] at h3
        omega
      rw [hstep, List.length_append] at hle
      have HST := Lib.hid hstep
      have HLE := Lib.hid hle
      clear hstep hle
      go_wp2_with fail
      refine (HI.out t m2 A2 k2 c2 _ HMEM.out HK.out).mono ?_
      rintro e w5 ⟨v5, rfl, g5, c5, rfl, hg5, ho5⟩
      have hzs : w.heap.size ≤ w5.heap.size := Nat.le_trans hgr.out.size (Nat.le_trans (by simp) hg5.size)
      have HINT := Lib.hid (Ints.of_own ho5)
      have hga := (World.grownBy_alloc wr (.cells #[.int .i64 m2, .slice A2 k2 c2] 63) none).trans hg5
      have own6 := own_keep ho1.out (fun k hk => hga.block k (ho1.out.lt k hk).2 (by simp))
      have HGA := Lib.hid (hgr.out.trans hga)
      obtain ⟨ns, hns⟩ : ∃ ns, nums d t = ns := ⟨_, rfl⟩
      rw [hns] at HINT ho5 ⊢
      have hfl : q + ns.length ≤ 1000000 := by have h1 := HLE.out; have h2 := hq.out; rw [hns] at h1; omega
      have HNS := Lib.hid hns
      have hnew : ∀ (i : Nat) (u : Value), (ns.map (Value.int .i64))[i]? = some u → w5.cell? ((⟨g5, 0, none⟩ : Addr).add i) = some u := fun i u hu => ho5.cells (g := g5) rfl i u hu
      have HNEW := Lib.hid hnew
      clear hg5 ho5 hga hns hnew
      go_wp2_with (at_builtin; refine wpList_append_own_at _ rfl _ _ 30 rfl w.heap.size 3 i0 (.int .i64 0) 1 8 Try.underlying30 hi0 hz0 hz1 hz2 rfl (by decide) _ q _ rfl own6 ⟨g5, 0, none⟩ ns.length c5 (ns.map (Value.int .i64)) rfl ?c1 HNEW.out ?c2 ?c3 ?c4 ?c5 ?_)
      case c1 => simp
      case c2 => intro u hu; obtain ⟨z, _, rfl⟩ := List.mem_map.1 hu; rfl
      case c3 => simp only [maxLen]; omega
      case c4 => omega
      case c5 => exact hzs
      intro v8 w8 hown8 hg8 hnil8 hat8
      obtain ⟨g8, c8, rfl⟩ : ∃ g8 c8, v8 = .slice (some ⟨g8, 0, none⟩) (q + ns.length) c8 := by
        rcases hown8.2 with ⟨hv, _⟩ | ⟨g, cap, cur, hv, _⟩
        · obtain ⟨g1, rfl⟩ := hg1.out
          have := hnil8.1 hv
          simp at this
        · exact ⟨g, cap, hv⟩
      have HO8 := Lib.hid hown8
      have HG8 := Lib.hid (gr_row HGA.out hg8 (fun k hk => (own6.lt k hk).1))
      clear hown8 hg8 hnil8 hat8 own6
      go_wp2_with fail
      go_roundw
      case rel =>
        refine ⟨j + 1, q + ns.length, some ⟨g8, 0, none⟩, c8, by omega, by go_num, rfl, Lib.hid ?_, Lib.hid ⟨_, rfl⟩, Lib.hid ?_, HG8⟩
        · rw [HST.out, List.length_append, HNS.out, ← hq.out]
        · rw [HST.out, List.map_append, HNS.out]
          exact HO8.out
      case measure => simp [intOf]; omega
    · have hjn : j = k := by omega
      have HJ := Lib.hid hjn
      clear hjn
      obtain ⟨g1, rfl⟩ := hg1.out
      go_wp2_with fail
      go_ret
      have e : ts.take j = ts := List.take_of_length_le (by have h1 := HJ.out; have h2 := HKX.out; have h3 := HLEN.out; omega)
      have h1 := hq.out
      have h2 := ho1.out
      rw [e] at h1 h2
      rw [nums_succ]
      subst h1
      exact ⟨_, rfl, g1, c1, rfl, hgr.out, h2⟩

/-- No array holds more numbers, or parts, than its text has bytes. -/
theorem nums_text : ∀ (d : Nat) (t : T d), (nums d t).length ≤ (text d t).length
  | 0, t => dec_pos _
  | d + 1, ts => by
    have e : text (d + 1) ts = 91 :: (lst d ts ++ [93]) := text_succ d ts
    rw [e]
    have h : ∀ (l : List (T d)), (l.flatMap (nums d)).length ≤ (l.flatMap (fun x => 44 :: text d x)).length := by
      intro l
      induction l with
      | nil => simp
      | cons x l ih =>
        have := nums_text d x
        simp only [List.flatMap_cons, List.length_append, List.length_cons]
        omega
    have h2 : ((show List (T d) from ts).flatMap (nums d)).length ≤ (lst d ts).length := by
      cases ts with
      | nil => simp
      | cons x l =>
        have := nums_text d x
        have := h l
        show ((x :: l).flatMap (nums d)).length ≤ _
        simp only [lst, List.flatMap_cons, List.length_append]
        omega
    simp only [List.length_cons, List.length_append]
    exact Nat.le_trans (show (nums (d + 1) ts).length ≤ (lst d ts).length from h2) (by omega)
theorem text_mem {d : Nat} : ∀ {ts : List (T d)} {t : T d}, t ∈ ts → (text d t).length ≤ (lst d ts).length
  | [], t, h => by cases h
  | x :: l, t, h => by
    have hf : ∀ (l : List (T d)), t ∈ l → (text d t).length ≤ (l.flatMap (fun x => 44 :: text d x)).length := by
      intro l
      induction l with
      | nil => intro h; cases h
      | cons y l ih =>
        intro h
        simp only [List.flatMap_cons, List.length_append, List.length_cons]
        rcases List.mem_cons.1 h with e | e
        · subst e; omega
        · have := ih e; omega
    simp only [lst, List.length_append]
    rcases List.mem_cons.1 h with e | e
    · subst e; omega
    · have := hf l e; omega

theorem snums_any (S : Nat → Prop) : ∀ (d : Nat) (n : Int) (t : T d) (m : Int) (A : Option Addr) (k c : Nat) (w : World), n = d → d ≤ 1000 → SNd w S d t (m, .slice A k c) → (text d t).length ≤ 1000000 →
    Calls Try.prog 53 #[.agg #[.int .i64 m, .slice A k c], .int .i64 n] w (NumsPost (nums d t) w)
  | 0, n, t, m, A, k, c, w, hn, _, h, _ => by obtain rfl : n = 0 := hn; exact snums0 t m A k c S w h
  | d + 1, n, t, m, A, k, c, w, hn, hd, h, ht => by
    have hnt := nums_text (d + 1) t
    have e : text (d + 1) t = 91 :: (lst d t ++ [93]) := text_succ d t
    rw [e] at ht
    have hlst : (lst d t).length ≤ 1000000 := by simp at ht; omega
    obtain ⟨xs, ho, hS, ha⟩ := h
    have hk : k ≤ 1000000 := by
      have h1 := (srow ho).1
      have h2 := All2.length t xs ha
      have h3 := lst_ge d t
      omega
    refine snumsS d n t m A k c S w ⟨xs, ho, hS, ha⟩ (by omega) (by omega) ?_ hk (fun t' m A k c w hm h => snums_any S d (n - 1) t' m A k c w (by omega) (by omega) h ?_)
    · have : (nums (d + 1) t).length ≤ 1000000 := by rw [e] at hnt; exact Nat.le_trans hnt ht
      exact this
    · exact Nat.le_trans (text_mem hm) hlst

/-- How NumbersOf ends, with and without an array. -/
def NOPost (s : ByteArray) (n : Int) (w : World) (e : Ending) (w' : World) : Prop :=
  (isArr s n = false ∧ ∃ A c, e = .returned (.tuple #[.slice A 0 c, .bool false]) ∧ w.grownBy w' none) ∨
  (isArr s n = true ∧ ∃ t v, readN s n.toNat = some t ∧ e = .returned (.tuple #[v, .bool true]) ∧ NewInts (nums n.toNat t) w v w')

set_option maxHeartbeats 400000 in
theorem snumbersof_any (s : ByteArray) (n : Int) (w : World) : Calls Try.prog 18 #[.string s, .int .i64 n] w (NOPost s n w) := by
  obtain ⟨b, hb⟩ : ∃ b, isArr s n = b := ⟨_, rfl⟩
  cases b
  · have HC := Lib.hid (sread_false hb w)
    have HB := Lib.hid hb
    clear hb
    go_enter Try.func18, Try.ntmps18
    go_wp2_with fail
    refine HC.out.mono ?_
    rintro e w1 ⟨rfl, hg⟩
    have HG := Lib.hid hg
    clear hg
    go_wp2_with fail
    go_ret2
    exact .inl ⟨HB.out, _, _, rfl, (HG.out.trans (World.grownBy_alloc _ _ _)).trans (World.grownBy_alloc _ _ _)⟩
  · have h0 : 0 ≤ n ∧ n ≤ 3 ∧ s.size ≤ 400 := by
      have := hb
      unfold isArr at this
      simp only [Bool.and_eq_true, decide_eq_true_eq] at this
      exact this.1
    have hnd : n = n.toNat := by omega
    obtain ⟨t, ht, hcall⟩ := sread_true hnd hb
    have hlen : (text n.toNat t).length ≤ 1000000 := by
      rw [← readN_bytes ht, Array.length_toList]
      have : s.data.size = s.size := rfl
      omega
    have HC := Lib.hid (hcall w)
    have HB := Lib.hid hb
    have HT := Lib.hid ht
    have HN := Lib.hid (fun (S : Nat → Prop) (m : Int) (A : Option Addr) (k c : Nat) (w : World) h => snums_any S n.toNat n t m A k c w hnd (by omega) h hlen)
    clear hb ht hcall hlen hnd
    go_enter Try.func18, Try.ntmps18
    go_wp2_with fail
    refine HC.out.mono ?_
    rintro e w1 ⟨m, A, k, c, rfl, hg, hnd⟩
    have HG := Lib.hid (hg.trans (World.grownBy_alloc w1 (.cells #[.int .i64 m, .slice A k c] 63) none))
    have HND := Lib.hid (SNd.keep (w' := w1.alloc (.cells #[.int .i64 m, .slice A k c] 63)) (fun b _ hb => Below.heap_alloc w1 _ b hb) (fun b hb _ => hb) n.toNat t _ hnd)
    clear hg hnd
    go_wp2_with fail
    refine (HN.out _ m A k c _ HND.out).mono ?_
    rintro e w2 ⟨v, rfl, hv⟩
    obtain ⟨g2, c2, rfl, hg2, ho2⟩ := hv
    have HG2 := Lib.hid (HG.out.trans hg2)
    have HO2 := Lib.hid (own_base (base' := w.heap.size) ho2 (Nat.le_trans HG.out.size (Nat.le_refl _)))
    clear hg2 ho2
    go_wp2_with fail
    go_ret2
    exact .inr ⟨HB.out, t, _, HT.out, rfl, g2, c2, rfl, HG2.out, HO2.out⟩

end Go.Proofs.Ytjcbhjldanakeab
