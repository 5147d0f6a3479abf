/- What the program's methods appendTo of terms do: the text of a term behind another text, in a row of bytes of the call's own. -/
import Derived.Test.YtboddoaekcchpaaGreatTReadL
import Derived.Test.YtboddoaekcchpaaGreatTSizeF
import Derived.Test.YtboddoaekcchpaaGreatOne
import Derived.Deep.RegionLaw
import Derived.Deep.AppendLies
import Derived.Deep.DeepCutAuto
import Derived.Lib.UnsafeStr
namespace Go.Proofs.YtboddoaekcchpaaGreat
open Go.RowKit

/-- Which function a call of appendTo comes to. -/
def appF : Tm → FuncId
  | .dig _ => 157
  | .var _ => 151
  | .pre _ _ => 160
  | .two _ _ _ => 163
  | .loop _ _ _ _ => 154
theorem method_app {w : World} {S : Nat → Prop} {t : Tm} {ty : TypeId} {pv : Value} (h : PT w S t (.iface ty pv)) (u : World) : (method 300 ty pv "loop.example/flatarrays/impl.appendTo").run Tryz.prog u = .ok (appF t, pv) u := by
  cases t with
  | dig c => cases h; kernel_rfl
  | var c => cases h; kernel_rfl
  | pre c s => obtain ⟨b, x, hv, _⟩ := h; cases hv; kernel_rfl
  | two c s t => obtain ⟨b, x, y, hv, _⟩ := h; cases hv; kernel_rfl
  | loop c i s t => obtain ⟨b, x, y, hv, _⟩ := h; cases hv; kernel_rfl
theorem run_app (t : Tm) (pv tv : Value) (u : World) : (callFunc (appF t) #[pv, tv]).run Tryz.prog u = .ok (.enter (appF t) #[pv, tv]) u := by cases t <;> kernel_rfl

theorem infoU8 : (Tryz.prog.info? 5).map (fun i => (i.zero, i.size, i.bytes)) = some (some (.int .u8 0), 1, 1) := by kernel_rfl
theorem bc_app (l m : List UInt8) : Lib.byteCells (l ++ m) = Lib.byteCells l ++ Lib.byteCells m := by simp [Lib.byteCells]
theorem bc_byt {c : Int} (h0 : 0 ≤ c) (h1 : c ≤ 255) : Lib.byteCells [byt c] = [.int .u8 c] := by simp [Lib.byteCells, byt_back h0 h1]

/-- A text that the call owns, in a row from block B on. -/
def Txt (w : World) (B : Nat) (v : Value) (l : List UInt8) : Prop := w.ownsRow B 5 1 v l.length (Lib.byteCells l) ∧ B ≤ w.heap.size
theorem Txt.form {w : World} {B : Nat} {v : Value} {l : List UInt8} (h : Txt w B v l) : ∃ A c, v = .slice A l.length c := by
  rcases h.1.2 with ⟨hv, hn⟩ | ⟨g, cap, cur, hv, _⟩
  · exact ⟨none, 0, by rw [hv, hn]⟩
  · exact ⟨_, _, hv⟩
theorem Txt.keep {w w' : World} {B : Nat} {v : Value} {l : List UInt8} (h : Txt w B v l) (hg : w.grownBy w' none) : Txt w' B v l :=
  ⟨own_keep h.1 (fun k hk => hg.block k (h.1.lt k hk).2 (by simp)), Nat.le_trans h.2 hg.size⟩
/-- Behind an append: the text is longer, and what lies below B lies as it lay. -/
theorem Txt.more {w w1 w2 : World} {B n : Nat} {v v' : Value} {l m : List UInt8} {xs : List Value} (h : Txt w B v l) (hg : w.grownBy w1 none) (ho : w2.ownsRow B 5 1 v' n (Lib.byteCells l ++ xs)) (hg2 : w1.grownBy w2 v.ownBlock) (hn : n = (l ++ m).length) (hx : xs = Lib.byteCells m) :
    Txt w2 B v' (l ++ m) ∧ Below B w w2 := by
  subst hn; subst hx
  rw [← bc_app] at ho
  have h1 := h.keep hg
  refine ⟨⟨ho, Nat.le_trans h1.2 hg2.size⟩, ?_⟩
  exact ⟨hg2.os.trans hg.os, hg2.tape.trans hg.tape, hg2.output.trans hg.output, Nat.le_trans hg.size hg2.size, fun k hk => (hg2.block k (Nat.lt_of_lt_of_le hk h1.2) (fun e => by have := (h1.1.lt k e.symm).1; omega)).trans (hg.block k (Nat.lt_of_lt_of_le hk h.2) (by simp))⟩
theorem PT.below {w w' : World} {B : Nat} {t : Tm} {v : Value} (h : PT w (fun b => b < B) t v) (hb : Below B w w') : PT w' (fun b => b < B) t v :=
  h.keep (fun k hk _ => hb.block k hk) (fun _ h _ => h) t v
theorem bel_cell {B : Nat} {w w' : World} {b o : Nat} {v : Value} (hb : Below B w w') (hbB : b < B) (hc : w.cell? ⟨b, o, none⟩ = some v) : w'.cell? ⟨b, o, none⟩ = some v := by
  rw [← hc]
  simp only [World.cell?]
  rw [hb.block b hbB]

/-- How appendTo ends. -/
def AppP (B : Nat) (l m : List UInt8) (w : World) (e : Ending) (w' : World) : Prop := ∃ v', e = .returned v' ∧ Txt w' B v' (l ++ m) ∧ Below B w w'

set_option maxRecDepth 100000 in
set_option maxHeartbeats 1000000 in
theorem app_dig (B : Nat) (l : List UInt8) (c : Int) (tv : Value) (w : World) (h0 : 0 ≤ c) (h1 : c ≤ 255) (h : Txt w B tv l) (hl : l.length ≤ 60000000) :
    Calls Tryz.prog 157 #[.int .u8 c, tv] w (AppP B l [byt c] w) := by
  obtain ⟨i0, hi0, hz0, hz1, hz2⟩ := info_parts infoU8
  obtain ⟨A0, c0, rfl⟩ := h.form
  have HT := Lib.hid h
  have hB := h.2
  have own1 := (h.keep (World.grownBy_alloc w (.cells #[.int .u8 c] 5) none)).1
  have HBC := Lib.hid (bc_byt h0 h1)
  clear h
  go_enter Tryz.func157, Tryz.ntmps157
  go_wp2_with (at_builtin; refine wpList_append_own_at _ rfl _ _ 22 rfl B 5 i0 (.int .u8 0) 1 1 Tryz.underlying22 hi0 hz0 hz1 hz2 rfl (by decide) _ _ _ rfl own1 ⟨w.heap.size, 0, none⟩ 1 1 [.int .u8 c] rfl rfl ?a1 ?a2 ?a3 ?a4 ?a5 ?_)
  case a1 => exact cell_one_new _ _ _
  case a2 => simp [Value.oneCell']
  case a3 => simp only [maxLen]; omega
  case a4 => omega
  case a5 => simp; omega
  intro v8 w8 hown8 hg8 _ _
  have HR := Lib.hid (HT.out.more (m := [byt c]) (World.grownBy_alloc w _ none) hown8 hg8 (by simp) HBC.out.symm)
  clear hown8 hg8 own1
  go_wp2_with fail
  go_ret
  exact ⟨v8, rfl, HR.out.1, HR.out.2⟩
set_option maxRecDepth 100000 in
set_option maxHeartbeats 1000000 in
theorem app_var (B : Nat) (l : List UInt8) (c : Int) (tv : Value) (w : World) (h0 : 0 ≤ c) (h1 : c ≤ 255) (h : Txt w B tv l) (hl : l.length ≤ 60000000) :
    Calls Tryz.prog 151 #[.int .u8 c, tv] w (AppP B l [byt c] w) := by
  obtain ⟨i0, hi0, hz0, hz1, hz2⟩ := info_parts infoU8
  obtain ⟨A0, c0, rfl⟩ := h.form
  have HT := Lib.hid h
  have hB := h.2
  have own1 := (h.keep (World.grownBy_alloc w (.cells #[.int .u8 c] 5) none)).1
  have HBC := Lib.hid (bc_byt h0 h1)
  clear h
  go_enter Tryz.func151, Tryz.ntmps151
  go_wp2_with (at_builtin; refine wpList_append_own_at _ rfl _ _ 22 rfl B 5 i0 (.int .u8 0) 1 1 Tryz.underlying22 hi0 hz0 hz1 hz2 rfl (by decide) _ _ _ rfl own1 ⟨w.heap.size, 0, none⟩ 1 1 [.int .u8 c] rfl rfl ?a1 ?a2 ?a3 ?a4 ?a5 ?_)
  case a1 => exact cell_one_new _ _ _
  case a2 => simp [Value.oneCell']
  case a3 => simp only [maxLen]; omega
  case a4 => omega
  case a5 => simp; omega
  intro v8 w8 hown8 hg8 _ _
  have HR := Lib.hid (HT.out.more (m := [byt c]) (World.grownBy_alloc w _ none) hown8 hg8 (by simp) HBC.out.symm)
  clear hown8 hg8 own1
  go_wp2_with fail
  go_ret
  exact ⟨v8, rfl, HR.out.1, HR.out.2⟩

set_option maxRecDepth 100000 in
set_option maxHeartbeats 4000000 in
theorem app_pre (B b : Nat) (l : List UInt8) (c : Int) (s : Tm) (tv x : Value) (w : World) (h0 : 0 ≤ c) (h1 : c ≤ 255) (h : Txt w B tv l) (hl : l.length + (s.txt.length + 1) ≤ 50000000)
    (hb : b < B) (hh : w.heap[b]? = some (.cells #[.int .u8 c, x] 115 (0, 0))) (hx : PT w (fun b => b < B) s x)
    (ih : ∀ (l : List UInt8) (ty : TypeId) (pv tv : Value) (w : World), PT w (fun b => b < B) s (.iface ty pv) → Txt w B tv l → l.length + s.txt.length ≤ 50000000 → Calls Tryz.prog (appF s) #[pv, tv] w (AppP B l s.txt w)) :
    Calls Tryz.prog 160 #[.pointer (some ⟨b, 0, none⟩), tv] w (AppP B l (byt c :: s.txt) w) := by
  obtain ⟨i0, hi0, hz0, hz1, hz2⟩ := info_parts infoU8
  obtain ⟨A0, k0, rfl⟩ := h.form
  obtain ⟨tx, px, rfl⟩ := hx.iface
  have HT := Lib.hid h
  have hB := h.2
  have HBC := Lib.hid (bc_byt h0 h1)
  have c0 : w.cell? ⟨b, 0, none⟩ = some (.int .u8 c) := cell_of_row w b 0 _ _ (0, 0) hh
  have c1 : w.cell? ⟨b, 1, none⟩ = some (.iface tx px) := cell_of_row w b 1 _ _ (0, 0) hh
  have hbl : b < w.heap.size := by omega
  have hm := method_app hx
  have hrun := fun tv => run_app s px tv
  have HX := Lib.hid hx
  have HI := Lib.hid ih
  clear h hh hx ih
  go_enter Tryz.func160, Tryz.ntmps160
  go_wp2_with fail
  go_region_law (first
    | (refine step_append_lies _ (by rfl) _ _ _ (by rfl) B 5 i0 _ 1 1 Tryz.underlying22 hi0 hz0 hz1 hz2 rfl (by omega) _ l.length (Lib.byteCells l) (by rfl) (HT.out.keep ((gr_drewN w 1 none).trans (World.grownBy_alloc w.drew (.cells #[.int .u8 c] 5) none))).1 ⟨w.heap.size, 0, none⟩ 1 1 [.int .u8 c] (by rfl) (by rfl) (World.news_of_block (cs := #[.int .u8 c]) (t := 5) (fr := (0, 0)) (heap_alloc_new w.drew _)) (by simp [Value.oneCell']) (by omega) (by simp [maxLen]; omega) (by omega) (by simp; omega) (w.heap.size + 1) (by simp) ?_
       intro gg cap w8 hown8 hg8 hat8 hlt8
       have HR8 := Lib.hid (HT.out.more (m := [byt c]) ((gr_drewN w 1 none).trans (World.grownBy_alloc w.drew (.cells #[.int .u8 c] 5) none)) hown8 hg8 (by simp) HBC.out.symm)
       have c18 := bel_cell HR8.out.2 hb c1
       clear hown8 hg8 hat8 hlt8)
    | (go_simp
       refine (HI.out _ tx px _ _ (HX.out.below HR8.out.2) HR8.out.1 (by simp; omega)).mono ?_
       rintro e w9 ⟨v9, rfl, ht9, hb9⟩
       have HT9 := Lib.hid ht9
       have HB9 := Lib.hid (HR8.out.2.trans hb9)
       clear ht9 hb9))
  all_goals
    go_wp2_with fail
    go_ret
    exact ⟨v9, rfl, by have := HT9.out; simpa using this, HB9.out⟩

set_option maxRecDepth 100000 in
set_option maxHeartbeats 8000000 in
theorem app_two (B b : Nat) (l : List UInt8) (c : Int) (s t : Tm) (tv x y : Value) (w : World) (h0 : 0 ≤ c) (h1 : c ≤ 255) (h : Txt w B tv l) (hl : l.length + (s.txt.length + (t.txt.length + 3)) ≤ 50000000)
    (hb : b < B) (hh : w.heap[b]? = some (.cells #[.int .u8 c, x, y] 119 (0, 0))) (hx : PT w (fun b => b < B) s x) (hy : PT w (fun b => b < B) t y)
    (ih1 : ∀ (l : List UInt8) (ty : TypeId) (pv tv : Value) (w : World), PT w (fun b => b < B) s (.iface ty pv) → Txt w B tv l → l.length + s.txt.length ≤ 50000000 → Calls Tryz.prog (appF s) #[pv, tv] w (AppP B l s.txt w))
    (ih2 : ∀ (l : List UInt8) (ty : TypeId) (pv tv : Value) (w : World), PT w (fun b => b < B) t (.iface ty pv) → Txt w B tv l → l.length + t.txt.length ≤ 50000000 → Calls Tryz.prog (appF t) #[pv, tv] w (AppP B l t.txt w)) :
    Calls Tryz.prog 163 #[.pointer (some ⟨b, 0, none⟩), tv] w (AppP B l (40 :: (s.txt ++ (byt c :: (t.txt ++ [41])))) w) := by
  obtain ⟨i0, hi0, hz0, hz1, hz2⟩ := info_parts infoU8
  obtain ⟨A0, k0, rfl⟩ := h.form
  obtain ⟨tx, px, rfl⟩ := hx.iface
  obtain ⟨ty, py, rfl⟩ := hy.iface
  have HT := Lib.hid h
  have hB := h.2
  have HBC := Lib.hid (bc_byt h0 h1)
  have c0 : w.cell? ⟨b, 0, none⟩ = some (.int .u8 c) := cell_of_row w b 0 _ _ (0, 0) hh
  have c1 : w.cell? ⟨b, 1, none⟩ = some (.iface tx px) := cell_of_row w b 1 _ _ (0, 0) hh
  have C0 := Lib.hid c0
  have C2 := Lib.hid (show w.cell? ⟨b, 2, none⟩ = some (.iface ty py) from cell_of_row w b 2 _ _ (0, 0) hh)
  have hm := method_app hx
  have hm2 := method_app hy
  have hrun := fun tv => run_app s px tv
  have hrun2 := fun tv => run_app t py tv
  have HX := Lib.hid hx
  have HY := Lib.hid hy
  have HI1 := Lib.hid ih1
  have HI2 := Lib.hid ih2
  have hbl : b < w.heap.size := by omega
  have HLL := Lib.hid hl
  clear h hh hx hy ih1 ih2 c0
  go_enter Tryz.func163, Tryz.ntmps163
  go_upto_region 1 with fail
  go_cut [1] (fun s1 wx => Hid (Txt wx B s1 (l ++ (40 :: s.txt))) ∧ Hid (Below B w wx))
  case first =>
    go_region_law (first
      | (refine step_append_lies _ (by rfl) _ _ _ (by rfl) B 5 i0 _ 1 1 Tryz.underlying22 hi0 hz0 hz1 hz2 rfl (by omega) _ l.length (Lib.byteCells l) (by rfl) (HT.out.keep ((gr_drewN w 1 none).trans (World.grownBy_alloc w.drew (.cells #[.int .u8 40] 5) none))).1 ⟨w.heap.size, 0, none⟩ 1 1 [.int .u8 40] (by rfl) (by rfl) (World.news_of_block (cs := #[.int .u8 40]) (t := 5) (fr := (0, 0)) (heap_alloc_new w.drew _)) (by simp [Value.oneCell']) (by omega) (by simp [maxLen]; omega) (by omega) (by simp; omega) (w.heap.size + 1) (by simp) ?_
         intro gg cap w8 hown8 hg8 hat8 hlt8
         have HR8 := Lib.hid (HT.out.more (m := [40]) ((gr_drewN w 1 none).trans (World.grownBy_alloc w.drew (.cells #[.int .u8 40] 5) none)) hown8 hg8 (by simp) (by rfl))
         have c18 := bel_cell HR8.out.2 hb c1
         clear hown8 hg8 hat8 hlt8)
      | (go_simp
         refine (HI1.out _ tx px _ _ (HX.out.below HR8.out.2) HR8.out.1 (by simp; omega)).mono ?_
         rintro e w9 ⟨v9, rfl, ht9, hb9⟩
         have HT9 := Lib.hid ht9
         have HB9 := Lib.hid (HR8.out.2.trans hb9)
         clear ht9 hb9))
    all_goals
      go_wp2_with fail
      go_meet
      exact ⟨Lib.hid (by have := HT9.out; simpa using this), HB9⟩
  case rest =>
    obtain ⟨HT1, HBW⟩ := hcut
    obtain ⟨A1, k1, rfl⟩ := HT1.out.form
    have c0 := bel_cell HBW.out hb C0.out
    have c2 := bel_cell HBW.out hb C2.out
    have HY1 := Lib.hid (HY.out.below HBW.out)
    obtain ⟨l1, hl1⟩ : ∃ l1, l ++ (40 :: s.txt) = l1 := ⟨_, rfl⟩
    have hll1 : l1.length + (t.txt.length + 2) ≤ 50000000 := by have := HLL.out; rw [← hl1]; simp; omega
    rw [hl1] at HT1
    simp only [hl1]
    have HL1 := Lib.hid hl1
    have hB1 := HT1.out.2
    have hbl1 : b < wc.heap.size := by omega
    clear hl1
    go_upto_region 2 with fail
    go_cut [1] (fun s1 wx => Hid (Txt wx B s1 (l1 ++ (byt c :: t.txt))) ∧ Hid (Below B w wx))
    case first =>
      go_region_law (first
        | (refine step_append_lies _ (by rfl) _ _ _ (by rfl) B 5 i0 _ 1 1 Tryz.underlying22 hi0 hz0 hz1 hz2 rfl (by omega) _ l1.length (Lib.byteCells l1) (by rfl) (HT1.out.keep ((gr_drewN wc 1 none).trans (World.grownBy_alloc wc.drew (.cells #[.int .u8 c] 5) none))).1 ⟨wc.heap.size, 0, none⟩ 1 1 [.int .u8 c] (by rfl) (by rfl) (World.news_of_block (cs := #[.int .u8 c]) (t := 5) (fr := (0, 0)) (heap_alloc_new wc.drew _)) (by simp [Value.oneCell']) (by omega) (by simp [maxLen]; omega) (by omega) (by simp; omega) (wc.heap.size + 1) (by simp) ?_
           intro gg cap w8 hown8 hg8 hat8 hlt8
           have HR8 := Lib.hid (HT1.out.more (m := [byt c]) ((gr_drewN wc 1 none).trans (World.grownBy_alloc wc.drew (.cells #[.int .u8 c] 5) none)) hown8 hg8 (by simp) HBC.out.symm)
           have c28 := bel_cell HR8.out.2 hb c2
           clear hown8 hg8 hat8 hlt8)
        | (go_simp
           refine (HI2.out _ ty py _ _ (HY1.out.below HR8.out.2) HR8.out.1 (by simp; omega)).mono ?_
           rintro e w9 ⟨v9, rfl, ht9, hb9⟩
           have HT9 := Lib.hid ht9
           have HB9 := Lib.hid (HR8.out.2.trans hb9)
           clear ht9 hb9))
      all_goals
        go_wp2_with fail
        go_meet
        exact ⟨Lib.hid (by have := HT9.out; simpa using this), Lib.hid (HBW.out.trans HB9.out)⟩
    case rest =>
      obtain ⟨HT2, HBW2⟩ := hcut
      obtain ⟨l2, hl2e⟩ : ∃ l2, l1 ++ (byt c :: t.txt) = l2 := ⟨_, rfl⟩
      have hll2 : l2.length + 1 ≤ 50000000 := by rw [← hl2e]; simp; omega
      rw [hl2e] at HT2
      obtain ⟨A2, k2, rfl⟩ := HT2.out.form
      have HL2 := Lib.hid hl2e
      have hB2 := HT2.out.2
      have own1 := (HT2.out.keep (World.grownBy_alloc wc (.cells #[.int .u8 41] 5) none)).1
      clear hl2e c0 c2 c1
      go_wp2_with (at_builtin; refine wpList_append_own_at _ rfl _ _ 22 rfl B 5 i0 (.int .u8 0) 1 1 Tryz.underlying22 hi0 hz0 hz1 hz2 rfl (by decide) _ _ _ rfl own1 ⟨wc.heap.size, 0, none⟩ 1 1 [.int .u8 41] rfl rfl ?a1 ?a2 ?a3 ?a4 ?a5 ?_)
      case a1 => exact cell_one_new _ _ _
      case a2 => simp [Value.oneCell']
      case a3 => simp only [maxLen]; omega
      case a4 => omega
      case a5 => simp; omega
      intro v8 w8 hown8 hg8 _ _
      have HR := Lib.hid (HT2.out.more (m := [41]) (World.grownBy_alloc wc _ none) hown8 hg8 (by simp) (by rfl))
      clear hown8 hg8 own1
      go_wp2_with fail
      go_ret
      refine ⟨v8, rfl, ?_, HBW2.out.trans HR.out.2⟩
      have := HR.out.1
      rw [← HL2.out, ← HL1.out] at this
      simpa using this

end Go.Proofs.YtboddoaekcchpaaGreat
