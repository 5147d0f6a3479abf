/- 7 texts in one: Pr IntC IntE IntB CrlS CrlI Lawcrul. -/
import Derived.Test.YtboddoaekcchpaaGr
import Derived.IntWalk
import Derived.Below
import Derived.Test.YtboddoaekcchpaaOwn
import Derived.Test.YtboddoaekcchpaaZU3
import Derived.Test.YtboddoaekcchpaaLawKit
import Derived.Test.YtboddoaekcchpaaGcrul
namespace Go.Proofs.Ytboddoaekcchpaa
/- Pr -/
section
open Go.RowKit

/-- A struct of two cells in a block. -/
def Pr (w : World) (g : Nat) (t : TypeId) (a b : Value) : Prop := w.heap[g]? = some (.cells #[a, b] t (0, 0))
section
variable {w w' : World} {g : Nat} {t : TypeId} {a b : Value}
theorem Pr.new (w : World) (t : TypeId) (a b : Value) : Pr (w.alloc (.cells #[a, b] t)) w.heap.size t a b := heap_alloc_new w _
theorem Pr.c0 (h : Pr w g t a b) : w.cell? ⟨g, 0, none⟩ = some a := cell_of_row w g 0 _ _ (0, 0) h
theorem Pr.c1 (h : Pr w g t a b) : w.cell? ⟨g, 1, none⟩ = some b := cell_of_row w g 1 _ _ (0, 0) h
theorem Pr.f (h : Pr w g t a b) (i : Nat) : w.frozen? ⟨g, i, none⟩ = false := by
  unfold Pr at h
  simp [World.frozen?, h]
theorem Pr.lt (h : Pr w g t a b) : g < w.heap.size := (Array.getElem?_eq_some_iff.1 h).1
theorem Pr.set0 (h : Pr w g t a b) (u : Value) : Pr (w.setCell ⟨g, 0, none⟩ u) g t u b := by
  unfold Pr at h ⊢
  simp [World.setCell, Array.getElem?_modify, h]
theorem Pr.set1 (h : Pr w g t a b) (u : Value) : Pr (w.setCell ⟨g, 1, none⟩ u) g t a u := by
  unfold Pr at h ⊢
  simp [World.setCell, Array.getElem?_modify, h]
theorem Pr.alloc (h : Pr w g t a b) (o : Obj) : Pr (w.alloc o) g t a b := (Below.heap_alloc w o g h.lt).trans h
theorem Pr.grown {row : Option Nat} (h : Pr w g t a b) (hg : w.grownBy w' row) (hne : some g ≠ row) : Pr w' g t a b := (hg.block g h.lt hne).trans h
end

theorem gr_ownF {w w1 w2 : World} {row : Option Nat} (h : w.grownBy w1 none) (h2 : w1.grownBy w2 row) (hr : ∀ k, row = some k → w.heap.size ≤ k) : w.grownBy w2 none :=
  ⟨h2.os.trans h.os, h2.tape.trans h.tape, h2.output.trans h.output, Nat.le_trans h.size h2.size, fun k hk hne => (h2.block k (Nat.lt_of_lt_of_le hk h.size) (fun e => by have := hr k e.symm; omega)).trans (h.block k hk hne)⟩
end

/- IntC -/
section
open Go.RowKit

/-- The slice's cells are these ints. -/
def Ints (w : World) (A : Option Addr) (zs : List Int) : Prop :=
  0 < zs.length → ∃ b off, A = some ⟨b, off, none⟩ ∧ b < w.heap.size ∧ ∀ (j : Nat) (z : Int), zs[j]? = some z → w.cell? ⟨b, off + j, none⟩ = some (.int .i64 z)
theorem Ints.grown {w w' : World} {A : Option Addr} {zs : List Int} {row : Option Nat} (h : Ints w A zs) (hg : w.grownBy w' row) (hne : ∀ b off, A = some ⟨b, off, none⟩ → some b ≠ row) : Ints w' A zs := fun hl => by
  obtain ⟨b, off, rfl, hb, hc⟩ := h hl
  exact ⟨b, off, rfl, Nat.lt_of_lt_of_le hb hg.size, fun j z hj => hg.cell (hc j z hj) (hne b off rfl)⟩
theorem Ints.at_ {w : World} {A : Option Addr} {zs : List Int} {j : Nat} (h : Ints w A zs) (hj : j < zs.length) : ∃ b off, A = some ⟨b, off, none⟩ ∧ w.cell? ⟨b, off + j, none⟩ = some (.int .i64 zs[j]) := by
  obtain ⟨b, off, hA, _, hc⟩ := h (by omega)
  exact ⟨b, off, hA, hc j _ (List.getElem?_eq_getElem hj)⟩
theorem Ints.of_own {w : World} {base e : Nat} {A : Option Addr} {k c : Nat} {zs : List Int} (h : w.ownsRow base e 1 (.slice A k c) zs.length (zs.map (Value.int .i64))) : Ints w A zs := fun hl => by
  rcases h.2 with ⟨hv, hn⟩ | ⟨g, cap, cur, hv, _, hg, hnc, _, hcs, htake⟩
  · omega
  · cases hv
    refine ⟨g, 0, rfl, (Array.getElem?_eq_some_iff.1 hg).1, fun j z hj => ?_⟩
    have hjl : j < zs.length := by
      rcases Nat.lt_or_ge j zs.length with h | h
      · exact h
      · rw [List.getElem?_eq_none h] at hj; cases hj
    rw [Nat.zero_add, cell_of_row w g j _ _ (0, 0) hg]
    have : (cur.toList.take (zs.length * 1))[j]? = some (.int .i64 z) := by rw [htake, List.getElem?_map, hj]; rfl
    rw [List.getElem?_take, if_pos (by omega)] at this
    simpa using this
theorem infoJ : (Try.prog.info? 3).map (fun i => (i.zero, i.size, i.bytes)) = some (some (.int .i64 0), 1, 8) := by kernel_rfl
theorem addr_flat (b off i : Nat) : (⟨b, off, none⟩ : Addr).add i = ⟨b, off + i, none⟩ := by unfold Addr.add; split <;> simp_all
end

/- IntE -/
section
open Go.RowKit

set_option maxHeartbeats 400000 in
theorem eqi_any (A B : Option Addr) (c d : Nat) (zs : List Int) (w : World) (h : Ints w A zs) (h2 : Ints w B zs) (hn : zs.length ≤ 1099511627776) :
    Calls Try.prog 19 #[.slice A zs.length c, .slice B zs.length d] w fun e w' => e = .returned (.bool true) ∧ w.grownBy w' none := by
  have HS := Lib.hid h
  have HS2 := Lib.hid h2
  obtain ⟨n, hnn⟩ : ∃ n, zs.length = n := ⟨_, rfl⟩
  have HN := Lib.hid hnn
  rw [hnn] at hn ⊢
  clear h h2 hnn
  have hnn : ((n : Int) != (n : Int)) = false := by simp
  go_enter Try.func19, Try.ntmps19
  go_wp2_with fail
  clear hnn
  go_loopw [5] (fun i wr => ∃ j : Nat, j ≤ n ∧ i = .int .i64 j ∧ Hid (w.grownBy wr none)) (fun i _ => n - (intOf i).toNat)
  case atStart => exact ⟨0, Nat.zero_le _, rfl, Lib.hid (gr_refl _ _)⟩
  case round =>
    obtain ⟨j, hj, rfl, hgr⟩ := hrel
    by_cases hlt : j < n
    · have hjz : j < zs.length := by have := HN.out; omega
      obtain ⟨b, off, rfl, hcell⟩ := (HS.out.grown hgr.out (by simp)).at_ hjz
      obtain ⟨b2, off2, rfl, hcell2⟩ := (HS2.out.grown hgr.out (by simp)).at_ hjz
      generalize zs[j] = z at hcell hcell2
      have hj0 : (0 : Int) ≤ (j : Int) := by omega
      have hj1 : (j : Int) < (n : Int) := by omega
      have hzz : (z != z) = false := by simp
      go_wp2_with fail
      go_quiet (fail)
      go_wp2_with fail
      go_roundw
      case rel => exact ⟨j + 1, by omega, by go_num, Lib.hid (hgr.out.trans (gr_drewN _ _ _))⟩
      case measure => simp [intOf]; omega
    · go_wp2_with fail
      go_ret
      exact ⟨rfl, hgr.out⟩
end

/- IntB -/
section
open Go.RowKit

/-- The numbers from k on. -/
def upFrom (k n : Nat) : List Int := (List.range n).map fun i => ((k + i : Nat) : Int)
theorem upFrom_length (k n : Nat) : (upFrom k n).length = n := by simp [upFrom]
theorem upFrom_at {k n j : Nat} (h : j < n) : (upFrom k n)[j]? = some ((k + j : Nat) : Int) := by simp [upFrom, h]

set_option maxHeartbeats 400000 in
theorem held_any (A : Option Addr) (c k n : Nat) (w : World) (h : Ints w A (upFrom k n)) (hn : n ≤ 1099511627776) (hk : k ≤ 1099511627776) :
    Calls Try.prog 21 #[.slice A n c, .int .i64 (k : Int)] w fun e w' => e = .returned (.int .i64 ((k + n : Nat) : Int)) ∧ w = w' := by
  have HS := Lib.hid h
  clear h
  go_enter Try.func21, Try.ntmps21
  go_wp2_with fail
  go_loop [1, 5] (fun u i => ∃ j : Nat, j ≤ n ∧ i = .int .i64 j ∧ u = .int .i64 ((k + j : Nat) : Int)) (fun _ i => n - (intOf i).toNat)
  case atStart => exact ⟨0, Nat.zero_le _, rfl, rfl⟩
  case round =>
    obtain ⟨j, hj, rfl, rfl⟩ := hrel
    by_cases hlt : j < n
    · obtain ⟨b, off, rfl, _, hc⟩ := HS.out (by rw [upFrom_length]; omega)
      have hcell := hc j _ (upFrom_at hlt)
      clear hc
      obtain ⟨z, hz⟩ : ∃ z : Nat, z = k + j := ⟨_, rfl⟩
      rw [← hz] at hcell
      have HZ := Lib.hid hz
      rw [← hz]
      have hz2 : z ≤ 2199023255552 := by omega
      clear hz
      go_wp2_with fail
      go_round
      case rel => exact ⟨j + 1, by omega, by go_num, by rw [HZ.out]; go_num⟩
      case measure => simp [intOf]; omega
    · have hjn : j = n := by omega
      have HJ := Lib.hid hjn
      clear hjn
      go_wp2_with fail
      go_ret
      exact ⟨by rw [HJ.out]; rfl, rfl⟩

/-- How markIntS ends: the row holds the numbers from k on. -/
def MarkPost (base k n : Nat) (A : Option Addr) (c : Nat) (w : World) (e : Ending) (w' : World) : Prop :=
  e = .returned (.int .i64 ((k + n : Nat) : Int)) ∧ w.grownBy w' (Value.slice A n c).ownBlock ∧ w'.ownsRow base 3 1 (.slice A n c) n ((upFrom k n).map (Value.int .i64))

set_option maxHeartbeats 400000 in
theorem mark_any (A : Option Addr) (base c k n : Nat) (xs : List Value) (w : World) (h : w.ownsRow base 3 1 (.slice A n c) n xs) (hn : n ≤ 1099511627776) (hk : k ≤ 1099511627776) :
    Calls Try.prog 20 #[.slice A n c, .int .i64 (k : Int)] w (MarkPost base k n A c w) := by
  have HO := Lib.hid h
  clear h
  go_enter Try.func20, Try.ntmps20
  go_wp2_with fail
  go_loopw [1, 5] (fun u i wr => ∃ (j : Nat) (ys : List Value), j ≤ n ∧ i = .int .i64 j ∧ u = .int .i64 ((k + j : Nat) : Int) ∧ Hid (wr.ownsRow base 3 1 (.slice A n c) n ys) ∧ Hid (∀ i, i < j → ys[i]? = some (.int .i64 ((k + i : Nat) : Int))) ∧ Hid (w.grownBy wr (Value.slice A n c).ownBlock)) (fun _ i _ => n - (intOf i).toNat)
  case atStart => exact ⟨0, xs, Nat.zero_le _, rfl, rfl, HO, Lib.hid (fun i hi => by omega), Lib.hid (gr_refl _ _)⟩
  case round =>
    obtain ⟨j, ys, hj, rfl, rfl, ho, hys, hgr⟩ := hrel
    by_cases hlt : j < n
    · obtain ⟨g, rfl⟩ : ∃ g, A = some ⟨g, 0, none⟩ := by
        rcases ho.out.2 with ⟨hv, hn0⟩ | ⟨g, cap, cur, hv, _⟩
        · omega
        · cases hv; exact ⟨g, rfl⟩
      have hyl : ys.length = n := by have := ho.out.1; omega
      have hcell : wr.cell? ⟨g, j, none⟩ = some ys[j] := (ho.out.cellAt j (by omega)).trans (List.getElem?_eq_getElem (by omega))
      have hfr := ho.out.frozenAt j
      generalize ys[j] = y0 at hcell
      obtain ⟨z, hz⟩ : ∃ z : Nat, z = k + j := ⟨_, rfl⟩
      have HZ := Lib.hid hz
      rw [← hz]
      have hz2 : z ≤ 2199023255552 := by omega
      have HYL := Lib.hid hyl
      have hst := ho.out.stored j (.int .i64 (z : Int))
      have HST := Lib.hid hst
      clear hz hyl hst
      go_wp2_with fail
      go_roundw
      case rel =>
        refine ⟨j + 1, ys.set j (.int .i64 (z : Int)), by omega, by go_num, by rw [HZ.out]; go_num, Lib.hid HST.out.1, Lib.hid (fun i hi => ?_), Lib.hid (hgr.out.trans HST.out.2)⟩
        rw [List.getElem?_set]
        by_cases e : j = i
        · subst e
          rw [if_pos rfl, if_pos (by have := HYL.out; omega), HZ.out]
        · rw [if_neg e]
          exact hys.out i (by omega)
      case measure => simp [intOf]; omega
    · have hjn : j = n := by omega
      have HJ := Lib.hid hjn
      clear hjn
      go_wp2_with fail
      go_ret
      refine ⟨by rw [HJ.out]; rfl, hgr.out, ?_⟩
      have e : ys = (upFrom k n).map (Value.int .i64) := by
        refine List.ext_getElem? fun i => ?_
        have hyl : ys.length = n := by have := ho.out.1; omega
        rcases Nat.lt_or_ge i n with h | h
        · rw [hys.out i (by rw [HJ.out]; exact h), List.getElem?_map, upFrom_at h]; rfl
        · rw [List.getElem?_eq_none (by omega), List.getElem?_eq_none (by rw [List.length_map, upFrom_length]; omega)]
      rw [← e]
      exact ho.out
end

/- CrlS -/
section
open Go.RowKit

/-- How often each of seven rules stands in a list. -/
def rcnt7 (l : List Nat) : List Int := (List.range 7).map fun j => IntKind.i64.wrap ((l.count j : Nat) : Int)
theorem rcnt7_len (l : List Nat) : (rcnt7 l).length = 7 := by simp [rcnt7]
theorem rcnt7_at (l : List Nat) {j : Nat} (hj : j < 7) : (rcnt7 l)[j]? = some (IntKind.i64.wrap ((l.count j : Nat) : Int)) := by simp [rcnt7, hj]
theorem rcnt7_eq {l : List Nat} {P : List Int} (h : P.length = 7) (h2 : ∀ j : Nat, j < 7 → P[j]? = some (IntKind.i64.wrap ((l.count j : Nat) : Int))) : P = rcnt7 l := by
  refine List.ext_getElem? fun j => ?_
  rcases Nat.lt_or_ge j 7 with hj | hj
  · rw [h2 j hj, rcnt7_at l hj]
  · rw [List.getElem?_eq_none (by omega), List.getElem?_eq_none (by rw [rcnt7_len]; omega)]
/-- What CountRules answers. -/
def crulZ (s : ByteArray) : List Int := match readT s with
  | some t => rcnt7 (smpL t)
  | none => []
theorem crulZ_some {s : ByteArray} {t : Tm} (h : readT s = some t) : crulZ s = rcnt7 (smpL t) := by unfold crulZ; rw [h]
theorem crulZ_none {s : ByteArray} (h : readT s = none) : crulZ s = [] := by unfold crulZ; rw [h]
theorem crulZ_len (s : ByteArray) : (crulZ s).length ≤ 7 := by
  unfold crulZ
  cases readT s with
  | none => simp
  | some t => simp [rcnt7_len]
theorem cs_ints {cp cg : Nat} {l : List Nat} {w : World} (h : CS cp cg l w) : Ints w (some ⟨cg, 0, none⟩) (rcnt7 l) := fun _ => by
  refine ⟨cg, 0, rfl, h.ltg, fun j z hj => ?_⟩
  have hj7 : j < 7 := by
    rcases Nat.lt_or_ge j 7 with h | h
    · exact h
    · rw [List.getElem?_eq_none (by rw [rcnt7_len]; exact h)] at hj; cases hj
  rw [rcnt7_at l hj7] at hj
  cases hj
  rw [Nat.zero_add]
  exact h.cell hj7

/-- How l10Done ends, and what the row of counts holds. -/
def Done2P (s : ByteArray) (w : World) (e : Ending) (w' : World) : Prop := ∃ A c, e = .returned (.tuple #[.string (sterm9T s), .slice A (crulZ s).length c, .bool (sterm9B s)]) ∧ w.grownBy w' none ∧ Ints w' A (crulZ s)
/-- How CountRules of the model ends. -/
def CrSP (zs : List Int) (b : Bool) (w : World) (e : Ending) (w' : World) : Prop := ∃ A c, e = .returned (.tuple #[.slice A zs.length c, .bool b]) ∧ w.grownBy w' none ∧ Ints w' A zs

set_option maxRecDepth 100000 in
set_option maxHeartbeats 4000000 in
theorem done2_spec (s : ByteArray) (hs : s.size ≤ 1048576) (w : World) :
    Calls Try.prog 30 #[.string s] w (Done2P s w) := by
  have H1 := Lib.hid (sterm_any s hs w)
  unfold Done2P
  obtain ⟨z, hz⟩ : ∃ z, sterm9T s = z := ⟨_, rfl⟩
  obtain ⟨b, hb⟩ : ∃ b, sterm9B s = b := ⟨_, rfl⟩
  obtain ⟨zs, hzs⟩ : ∃ zs, crulZ s = zs := ⟨_, rfl⟩
  rw [hz, hb, hzs]
  have HZS := Lib.hid hzs
  have HZ := Lib.hid hz
  have HB := Lib.hid hb
  clear hb hz hs hzs
  go_enter Try.func30, Try.ntmps30
  go_wp2_with fail
  refine H1.out.mono ?_
  intro e w1 hp
  obtain ⟨a1, b1, A1, k1, c1, o1, rfl, hg1, ho1, hs1⟩ := sterm_shape hp
  obtain ⟨x1, hx1⟩ : ∃ x, w1.alloc (.cells #[.int .u8 a1, .int .u8 b1, .slice A1 k1 c1] TN) = x := ⟨_, rfl⟩
  obtain ⟨n1, hn1⟩ : ∃ x, w1.heap.size = x := ⟨_, rfl⟩
  have gx1 : w1.grownBy x1 none := by rw [← hx1]; exact World.grownBy_alloc _ _ _
  have C1 := Lib.hid (show C3 x1 n1 (.int .u8 a1) (.int .u8 b1) (.slice A1 k1 c1) TN by rw [← hx1, ← hn1]; exact c3_new _ _ _ _ _)
  have HG1 := Lib.hid (hg1.trans gx1)
  have HO1 := Lib.hid ho1
  have HS1 := Lib.hid (fun T hT => (hs1 T hT).grown gx1)
  clear hg1 gx1 ho1 hs1 hp
  have hb := HB.out
  have hz := HZ.out
  unfold sterm9B at hb
  unfold sterm9T at hz
  cases o1 with
  | false =>
    have hn : readT s = none := by cases h : readT s with | none => rfl | some t => have := HO1.out; rw [h] at this; cases this
    rw [hn] at hb hz
    simp only [Option.isSome_none] at hb
    subst hb hz
    have hzs := HZS.out
    rw [crulZ_none hn] at hzs
    subst hzs
    clear hn
    go_wp2_with fail
    refine bodyPost_ret (v := .tuple #[.string ⟨#[]⟩, .slice (some ⟨x1.heap.size, 0, none⟩) 0 0, .bool false]) (by simp [results, Try.results30, go_sem]) rfl ?_
    exact ⟨_, ⟨_, rfl⟩, HG1.out.trans (World.grownBy_alloc _ _ _), fun hl => absurd hl (by simp)⟩
  | true =>
    obtain ⟨t, ht⟩ : ∃ t, readT s = some t := Option.isSome_iff_exists.1 HO1.out
    rw [ht] at hb hz
    simp only [Option.isSome_some] at hb
    subst hb
    have hbd := readT_bd ht
    have HZL : Hid (zs = rcnt7 (smpL t)) := Lib.hid (by rw [← HZS.out, crulZ_some ht])
    obtain ⟨gz, hgz⟩ : ∃ g, x1.heap.size = g := ⟨_, rfl⟩
    obtain ⟨y1, hy1⟩ : ∃ y, x1.alloc (.cells #[.int .i64 0, .int .i64 0, .int .i64 0, .int .i64 0, .int .i64 0, .int .i64 0, .int .i64 0] 3) = y := ⟨_, rfl⟩
    have zy1 : y1.heap.size = gz + 1 := by rw [← hy1, World.size_alloc, hgz]
    obtain ⟨y2, hy2⟩ : ∃ y, y1.alloc (.cells #[.slice (some ⟨gz, 0, none⟩) 7 7] TCo) = y := ⟨_, rfl⟩
    have gy : x1.grownBy y2 none := by rw [← hy2, ← hy1]; exact (World.grownBy_alloc _ _ none).trans (World.grownBy_alloc _ _ none)
    have hcs : CS (gz + 1) gz [] y2 := by rw [← hy2, ← hy1, ← hgz]; exact cs_new x1
    have hge : w.heap.size ≤ gz := by rw [← hgz]; exact HG1.out.size
    have hso := smp_ok hbd.1
    have HOK := Lib.hid hso.1
    have HLN : Hid ((smp t).txt.length ≤ 1000000) := Lib.hid (by have := hso.2.2.1; have := hbd.2.1; omega)
    have HZT : Hid (bytesOf (smp t).txt = z) := Lib.hid hz
    have HSS := Lib.hid (ss_any (gz + 1) gz 80 t a1 b1 A1 k1 c1 y2.drew [] (fun x => x < y2.heap.size) hbd.2.2 hbd.1 hbd.2.1 (fun x hx => hx) (hcs.grown (gr_drewN y2 1 none)) ((((HS1.out t ht).grown gy).keep (fun _ _ _ => rfl) (fun x _ hx => hx) _ _).grown (gr_drewN y2 1 none)))
    have HCS := Lib.hid hcs
    have HGY := Lib.hid (HG1.out.trans gy)
    have HGE := Lib.hid hge
    have C2 := Lib.hid (C1.out.grown gy (by simp))
    have hm7 := make7
    have q0 := C2.out.c0
    have q1 := C2.out.c1
    have q2 := C2.out.c2
    have qs := hcs.slot
    clear hz ht hbd hso gy hcs hge
    go_wp2_with fail
    go_region_held3 (fun w' => w'.cell? ⟨n1, 0, none⟩ = some (.int .u8 a1) ∧ w'.cell? ⟨n1, 1, none⟩ = some (.int .u8 b1) ∧ w'.cell? ⟨n1, 2, none⟩ = some (.slice A1 k1 c1) ∧ w'.cell? ⟨gz + 1, 0, none⟩ = some (.slice (some ⟨gz, 0, none⟩) 7 7)) (go_keep)
      (first
        | (go_at_call 48
           (with_reducible refine HSS.out.mono ?_)
           rintro e w3 ⟨a2, b2, A2, k2, c2, rfl, hg3, hsn3, hcs3⟩
           have hgg := (gr_drewN y2 1 (some gz)).trans hg3
           have HG3 := Lib.hid (gr_new HGY.out hgg HGE.out)
           have C3' := Lib.hid (C2.out.keepc HCS.out hgg)
           have HCS3 := Lib.hid hcs3
           have HTX := Lib.hid (stxt_any (smp t) _ a2 b2 A2 k2 c2 w3 HOK.out HLN.out hsn3)
           have u0 := C3'.out.c0
           have u1 := C3'.out.c1
           have u2 := C3'.out.c2
           have us := hcs3.slot
           clear hg3 hsn3 hcs3 hgg)
        | (go_at_call 28
           (with_reducible refine HTX.out.mono ?_)
           rintro e w4 ⟨rfl, hg4⟩
           have HG4 := Lib.hid (HG3.out.trans hg4)
           have t0 := (C3'.out.grown hg4 (by simp)).c0
           have t1 := (C3'.out.grown hg4 (by simp)).c1
           have t2 := (C3'.out.grown hg4 (by simp)).c2
           have ts := hg4.cell us (by simp)
           have HCS4 := Lib.hid (HCS3.out.grown hg4)
           clear hg4))
    all_goals
      go_wp2_with fail
      rw [HZT.out]
      refine bodyPost_ret (v := .tuple #[.string z, .slice (some ⟨gz, 0, none⟩) 7 7, .bool true]) (by simp [results, Try.results30, go_sem]) rfl ?_
      refine ⟨some ⟨gz, 0, none⟩, 7, ?_, HG4.out, ?_⟩
      · rw [show zs.length = 7 by rw [HZL.out, rcnt7_len]]
      · rw [HZL.out]; exact cs_ints HCS4.out

set_option maxRecDepth 100000 in
set_option maxHeartbeats 2000000 in
theorem crul_spec (s : ByteArray) (hs : s.size ≤ 1048576) (w : World) :
    Calls Try.prog 17 #[.string s] w (CrSP (crulZ s) (sterm9B s) w) := by
  have H := Lib.hid (done2_spec s hs w)
  unfold Done2P at H
  unfold CrSP
  generalize sterm9T s = z at H
  generalize sterm9B s = b at H ⊢
  generalize crulZ s = zs at H ⊢
  obtain ⟨k, hk⟩ : ∃ k, zs.length = k := ⟨_, rfl⟩
  rw [hk] at H ⊢
  clear hs hk
  go_enter Try.func17, Try.ntmps17
  go_wp2_with fail
  refine H.out.mono ?_
  rintro e w1 ⟨A, c, rfl, hg1, hi1⟩
  have HG1 := Lib.hid hg1
  have HI1 := Lib.hid hi1
  clear hg1 hi1
  go_wp2_with fail
  go_ret2
  exact ⟨A, c, rfl, HG1.out, HI1.out⟩
end

/- CrlI -/
section
open Go.RowKit

/-- How markIntS ends: the row holds the numbers from k on. -/
def MarkPostE (E : TypeId) (base k n : Nat) (A : Option Addr) (c : Nat) (w : World) (e : Ending) (w' : World) : Prop :=
  e = .returned (.int .i64 ((k + n : Nat) : Int)) ∧ w.grownBy w' (Value.slice A n c).ownBlock ∧ w'.ownsRow base E 1 (.slice A n c) n ((upFrom k n).map (Value.int .i64))

set_option maxHeartbeats 400000 in
theorem mark_anyE (E : TypeId) (A : Option Addr) (base c k n : Nat) (xs : List Value) (w : World) (h : w.ownsRow base E 1 (.slice A n c) n xs) (hn : n ≤ 1099511627776) (hk : k ≤ 1099511627776) :
    Calls Try.prog 20 #[.slice A n c, .int .i64 (k : Int)] w (MarkPostE E base k n A c w) := by
  have HO := Lib.hid h
  clear h
  go_enter Try.func20, Try.ntmps20
  go_wp2_with fail
  go_loopw [1, 5] (fun u i wr => ∃ (j : Nat) (ys : List Value), j ≤ n ∧ i = .int .i64 j ∧ u = .int .i64 ((k + j : Nat) : Int) ∧ Hid (wr.ownsRow base E 1 (.slice A n c) n ys) ∧ Hid (∀ i, i < j → ys[i]? = some (.int .i64 ((k + i : Nat) : Int))) ∧ Hid (w.grownBy wr (Value.slice A n c).ownBlock)) (fun _ i _ => n - (intOf i).toNat)
  case atStart => exact ⟨0, xs, Nat.zero_le _, rfl, rfl, HO, Lib.hid (fun i hi => by omega), Lib.hid (gr_refl _ _)⟩
  case round =>
    obtain ⟨j, ys, hj, rfl, rfl, ho, hys, hgr⟩ := hrel
    by_cases hlt : j < n
    · obtain ⟨g, rfl⟩ : ∃ g, A = some ⟨g, 0, none⟩ := by
        rcases ho.out.2 with ⟨hv, hn0⟩ | ⟨g, cap, cur, hv, _⟩
        · omega
        · cases hv; exact ⟨g, rfl⟩
      have hyl : ys.length = n := by have := ho.out.1; omega
      have hcell : wr.cell? ⟨g, j, none⟩ = some ys[j] := (ho.out.cellAt j (by omega)).trans (List.getElem?_eq_getElem (by omega))
      have hfr := ho.out.frozenAt j
      generalize ys[j] = y0 at hcell
      obtain ⟨z, hz⟩ : ∃ z : Nat, z = k + j := ⟨_, rfl⟩
      have HZ := Lib.hid hz
      rw [← hz]
      have hz2 : z ≤ 2199023255552 := by omega
      have HYL := Lib.hid hyl
      have hst := ho.out.stored j (.int .i64 (z : Int))
      have HST := Lib.hid hst
      clear hz hyl hst
      go_wp2_with fail
      go_roundw
      case rel =>
        refine ⟨j + 1, ys.set j (.int .i64 (z : Int)), by omega, by go_num, by rw [HZ.out]; go_num, Lib.hid HST.out.1, Lib.hid (fun i hi => ?_), Lib.hid (hgr.out.trans HST.out.2)⟩
        rw [List.getElem?_set]
        by_cases e : j = i
        · subst e
          rw [if_pos rfl, if_pos (by have := HYL.out; omega), HZ.out]
        · rw [if_neg e]
          exact hys.out i (by omega)
      case measure => simp [intOf]; omega
    · have hjn : j = n := by omega
      have HJ := Lib.hid hjn
      clear hjn
      go_wp2_with fail
      go_ret
      refine ⟨by rw [HJ.out]; rfl, hgr.out, ?_⟩
      have e : ys = (upFrom k n).map (Value.int .i64) := by
        refine List.ext_getElem? fun i => ?_
        have hyl : ys.length = n := by have := ho.out.1; omega
        rcases Nat.lt_or_ge i n with h | h
        · rw [hys.out i (by rw [HJ.out]; exact h), List.getElem?_map, upFrom_at h]; rfl
        · rw [List.getElem?_eq_none (by omega), List.getElem?_eq_none (by rw [List.length_map, upFrom_length]; omega)]
      rw [← e]
      exact ho.out

/-- How CountRules of the program ends. -/
def CrIP (zs : List Int) (b : Bool) (w : World) (e : Ending) (w' : World) : Prop := ∃ A c, e = .returned (.tuple #[.slice A zs.length c, .bool b]) ∧ w.grownBy w' none ∧ w'.ownsRow w.heap.size TSm 1 (.slice A zs.length c) zs.length (zs.map (Value.int .i64))
theorem ci_own {g base : Nat} {l : List Nat} {w : World} (h : CI g l w) (hb : base ≤ g) : w.ownsRow base TSm 1 (.slice (some ⟨g, 0, none⟩) 7 7) 7 ((rcnt7 l).map (Value.int .i64)) := by
  obtain ⟨P, h1, h2⟩ := h
  have e := rcnt7_eq h1.2 h2
  subst e
  exact ⟨by simp [rcnt7_len], .inr ⟨g, 7, _, rfl, hb, h1.1, Nat.le_refl _, by unfold maxLen; omega, by simp [pv7, rcnt7_len], by simp [pv7]; rw [List.take_of_length_le (by simp [rcnt7_len])]⟩⟩

set_option maxRecDepth 100000 in
set_option maxHeartbeats 2000000 in
theorem crul_impl (s : ByteArray) (w : World) :
    Calls Try.prog 18 #[.string s] w (CrIP (crulZ s) (sterm9B s) w) := by
  have H := Lib.hid (term_any s w)
  have hzero : ∀ w, (zeroValue 53).run Try.prog w = .ok (.agg (Array.replicate 7 (.int .i64 0))) w := zeroSm.1
  obtain ⟨zs, hz⟩ : ∃ zs, crulZ s = zs := ⟨_, rfl⟩
  obtain ⟨b, hb⟩ : ∃ b, sterm9B s = b := ⟨_, rfl⟩
  rw [hz, hb]
  have HZ := Lib.hid hz
  have HB := Lib.hid hb
  clear hb hz
  unfold CrIP
  go_enter Try.func18, Try.ntmps18
  go_wp2_with fail
  refine H.out.mono ?_
  intro e w1 hp
  unfold TermPost at hp
  have hb := HB.out
  have hz := HZ.out
  unfold sterm9B at hb
  cases hr : readT s with
  | none =>
    rw [hr] at hp hb
    rw [crulZ_none hr] at hz
    simp only [Option.isSome_none] at hb
    subst hb hz
    obtain ⟨rfl, hg⟩ := hp
    have HG := Lib.hid hg
    clear hg hr
    go_wp2_with fail
    go_ret2
    exact ⟨none, 0, rfl, HG.out, rfl, .inl ⟨rfl, rfl⟩⟩
  | some t =>
    rw [hr] at hp hb
    rw [crulZ_some hr] at hz
    simp only [Option.isSome_some] at hb
    subst hb
    obtain ⟨v, rfl, hg, ha⟩ := hp
    obtain ⟨ty, pv, rfl⟩ := ha.iface
    have hbd := readT_bd hr
    obtain ⟨x1, hx1⟩ : ∃ x, w1.alloc (.cells (Array.replicate 7 (.int .i64 0)) TSm) = x := ⟨_, rfl⟩
    obtain ⟨n1, hn1⟩ : ∃ n, w1.heap.size = n := ⟨_, rfl⟩
    have gx1 : w1.grownBy x1 none := by rw [← hx1]; exact World.grownBy_alloc _ _ _
    have hci : CI n1 [] x1 := by rw [← hx1, ← hn1]; exact ci_new w1
    have HSM := Lib.hid (sm_any n1 80 t _ x1 [] hbd.2.2 hbd.1 hbd.2.1 hci (ha.any.grown gx1))
    have hsz : w.heap.size ≤ n1 := by rw [← hn1]; exact hg.size
    have HSZ := Lib.hid hsz
    have HGX := Lib.hid (hg.trans gx1)
    have HZ2 := Lib.hid hz
    clear hg ha hr hz hbd gx1 hci hsz
    go_wp2_with fail
    refine HSM.out.mono ?_
    rintro e w2 ⟨v2, rfl, hg2, hp2, hc2⟩
    have HG2 := Lib.hid (gr_new HGX.out hg2 HSZ.out)
    have HC2 := Lib.hid hc2
    clear hg2 hp2 hc2
    go_wp2_with fail
    go_ret2
    refine ⟨some ⟨n1, 0, none⟩, 7, ?_, HG2.out, ?_⟩
    · rw [← HZ2.out, rcnt7_len]; rfl
    · rw [← HZ2.out, rcnt7_len]; exact ci_own HC2.out HSZ.out
end

/- Lawcrul -/
section
open Go.ChangeShapes Go.WideShapes Go.ChangeAt Go.RowKit
open Go.ChangeMaps (open_string shut_string)

theorem Ints.under {w w1 w2 : World} {A : Option Addr} {zs : List Int} {row : Option Nat} (h : Ints w A zs) (h1 : w.grownBy w1 none) (h2 : w1.grownBy w2 row) (hr : ∀ k, row = some k → w.heap.size ≤ k) : Ints w2 A zs := fun hl => by
  obtain ⟨b, off, rfl, hb, hc⟩ := h hl
  have hb1 : b < w1.heap.size := Nat.lt_of_lt_of_le hb h1.size
  exact ⟨b, off, rfl, Nat.lt_of_lt_of_le hb1 h2.size, fun j z hj => h2.cell (h1.cell (hc j z hj) (by simp)) (fun e => by have := hr b e.symm; omega)⟩

set_option maxHeartbeats 2000000 in
theorem law_crul_in (s : ByteArray) (hs : s.size ≤ 1048576) (w : World) :
    Calls Try.prog 7 #[.string s] w fun e w' => e = .returned (.bool true) ∧ w.grownBy w' none := by
  have H1 := Lib.hid (fun w => crul_spec s hs w)
  have H2 := Lib.hid (fun w => crul_impl s w)
  have hzl := crulZ_len s
  unfold CrSP at H1
  unfold CrIP at H2
  generalize sterm9B s = b at H1 H2
  generalize crulZ s = zs at H1 H2 hzl
  obtain ⟨k, hk⟩ : ∃ k, zs.length = k := ⟨_, rfl⟩
  have HK := Lib.hid hk
  rw [hk] at H1 H2 hzl
  clear hk
  cases b
  all_goals
    go_enter Try.func7, Try.ntmps7
    go_wp2_with fail
    refine (H1.out _).mono ?_
    rintro e w1 ⟨A1, c1, rfl, hg1, hi1⟩
    have HG1 := Lib.hid hg1
    have HI1 := Lib.hid hi1
    clear hg1 hi1
    go_wp2_with fail
    refine (H2.out _).mono ?_
    rintro e w2 ⟨A2, c2, rfl, hg2, ho2⟩
    have HG2 := Lib.hid hg2
    have HO2 := Lib.hid ho2
    have HE := Lib.hid (eqi_any A2 A1 c2 c1 zs w2 (Ints.of_own (e := TSm) (by rw [HK.out]; exact ho2)) (HI1.out.grown hg2 (by simp)) (by have := HK.out; omega))
    rw [HK.out] at HE
    clear hg2 ho2
    go_wp2_with fail
    refine HE.out.mono ?_
    rintro e w3 ⟨rfl, hg3⟩
    have HG3 := Lib.hid hg3
    have HO3 := Lib.hid (own_keep HO2.out (fun g hg => hg3.block g (HO2.out.lt g hg).2 (by simp)))
    clear hg3
    go_wp2_with fail
    refine (mark_anyE TSm A2 w1.heap.size c2 1 k _ w3 HO3.out (by omega) (by omega)).mono ?_
    rintro e w4 ⟨rfl, hg4, ho4⟩
    have HG4 := Lib.hid hg4
    have HO4 := Lib.hid ho4
    obtain ⟨m, hm⟩ : ∃ m : Nat, 1 + k = m := ⟨_, rfl⟩
    have HM := Lib.hid hm
    have hm2 : m ≤ 1000 := by omega
    rw [hm]
    clear hg4 ho4 hm
    have HU4 := Lib.hid (show Ints w4 A2 (upFrom 1 k) from Ints.of_own (e := TSm) (by rw [upFrom_length]; exact HO4.out))
    have HI4 := Lib.hid (HI1.out.under ((HG2.out.trans HG3.out)) HG4.out (fun j hj => (HO3.out.lt j hj).1))
    have HG5 := Lib.hid (gr_ownF (HG1.out.trans (HG2.out.trans HG3.out)) HG4.out (fun j hj => Nat.le_trans HG1.out.size (HO3.out.lt j hj).1))
    have hmneg : ¬ ((m : Int) < 0) := by omega
    have hmm : ((m : Int) != (m : Int)) = false := by simp
    go_wp2_with fail
    refine (held_any A2 c2 1 k w4 HU4.out (by omega) (by omega)).mono ?_
    rintro e w5 ⟨rfl, rfl⟩
    rw [HM.out]
    go_wp2_with fail
    refine (H2.out _).mono ?_
    rintro e w6 ⟨A6, c6, rfl, hg6, ho6⟩
    have HG6 := Lib.hid (HG5.out.trans hg6)
    have HU6 := Lib.hid (HU4.out.grown hg6 (by simp))
    have HE6 := Lib.hid (eqi_any A6 A1 c6 c1 zs w6 (Ints.of_own (e := TSm) (by rw [HK.out]; exact ho6)) (HI4.out.grown hg6 (by simp)) (by have := HK.out; omega))
    rw [HK.out] at HE6
    clear hg6 ho6
    go_wp2_with fail
    refine HE6.out.mono ?_
    rintro e w7 ⟨rfl, hg7⟩
    have HG7 := Lib.hid (HG6.out.trans hg7)
    have HU7 := Lib.hid (HU6.out.grown hg7 (by simp))
    clear hg7
    go_wp2_with fail
    refine (held_any A2 c2 1 k w7 HU7.out (by omega) (by omega)).mono ?_
    rintro e w8 ⟨rfl, rfl⟩
    rw [HM.out]
    go_wp2_with fail
    go_ret
    exact ⟨rfl, HG7.out⟩

theorem law_crul_out0 (s : ByteArray)  (hs : 1048576 < s.size) (w : World) :
    Calls Try.prog 7 #[.string s] w fun e w' => e = .returned (.bool true) ∧ w.grownBy w' none := by
  go_enter Try.func7, Try.ntmps7
  go_wp2_with fail
  go_ret
  exact ⟨rfl, gr_refl _ _⟩

theorem law_crul (s : ByteArray) (w : World) :
    Calls Try.prog 7 #[.string s] w fun e w' => e = .returned (.bool true) ∧ w.grownBy w' none := by
  rcases Nat.lt_or_ge 1048576 s.size with hs | hs
  · exact law_crul_out0 s hs w
  exact law_crul_in s hs w

set_option maxRecDepth 100000 in
theorem crul_lifted (os : Os) (started : os.Started) (H : Type) (enc : TypeId × Value → H) :
    ReturnsInHanded {} Try.checked os 7 .any (Rows.fnExactCountRulesSpec.pre6 enc Try.prog Try.f7 Rows.fnExactCountRulesRow.domain false) (Rows.fnExactCountRulesSpec.post enc Try.prog Try.f7 false true false false) := by
  refine returnsInHanded_of_change (C := Try.checked) knob_own started (by kernel_rfl) Try.func7
    (ChangeSpec.witness6 (enc := enc) (C := Try.checked) false ⟨#[], #[.string .empty], []⟩ 8 (by kernel_rfl) (by kernel_rfl) (by kernel_rfl) (by kernel_rfl)) ?_
  intro W base args ds gs before hval0 hW hcnd _
  have hval : ∀ (j : Nat) t v, Try.f7.params[j]? = some t → args[j]? = some v → Value.okWide Try.prog W .any base t v := hval0
  have hW' := hW
  obtain ⟨p, q, hA0, hV, rfl, hfz, hnd⟩ := hW
  have hA : DataW.TrodAll enc Try.prog W 0 (fun _ => true) true Try.f7.params.toList args.toList ds p := hA0
  rw [Try.params7] at hA hval
  obtain ⟨v0, d0, rfl, rfl, h0⟩ := trodAll_one hA
  obtain ⟨rfl, rfl⟩ := trodVars_none hV
  obtain ⟨s, rfl, rfl, rfl, hmax0⟩ := open_string Try.underlying9 (hval 0 9 v0 rfl rfl) h0
  clear hA0 hval0
  simp only [List.append_nil] at hW'
  refine (law_crul s W).mono fun e W' ⟨he, hg⟩ => ?_
  subst he
  refine ⟨_, rfl, _, _, _, [], [], [], hW', ?_, ?_, rfl, (below_of hg).frame _, fun h => by cases h⟩
  · exact trodAll_mk1 (shut_bool Try.underlying4 _)
  · exact trodAll_mk1 (shut_string Try.underlying9 hmax0)

theorem crul_holds : Rows.FnExactCountRulesSaid :=
  OpenClaim.holds_of_wide 7 Try.f7 rfl rfl rfl rfl rfl rfl rfl ⟨rfl, rfl, rfl, rfl, rfl⟩ rfl rfl rfl rfl rfl fcrul_name Try.func7 fcrul_all fcrul_inst fcrul_wrap
    (fun os started H enc _ => crul_lifted os started H enc)

#print axioms crul_holds
end

end Go.Proofs.Ytboddoaekcchpaa
