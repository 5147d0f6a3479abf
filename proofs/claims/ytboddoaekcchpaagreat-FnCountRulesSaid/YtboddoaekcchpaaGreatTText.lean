/- What appendTo of the program does at whatever term; textOfTerm. -/
import Derived.Test.YtboddoaekcchpaaGreatTApp
import Derived.Lib.SlBytesRow
namespace Go.Proofs.YtboddoaekcchpaaGreat
section
open Go.RowKit

theorem bc_three {c i : Int} (h0 : 0 ≤ c) (h1 : c ≤ 255) (h2 : 0 ≤ i) (h3 : i ≤ 255) : Lib.byteCells [byt c, byt i, 58] = [.int .u8 c, .int .u8 i, .int .u8 58] := by simp [Lib.byteCells, byt_back h0 h1, byt_back h2 h3]

set_option maxRecDepth 100000 in
set_option maxHeartbeats 8000000 in
theorem app_loop (B b : Nat) (l : List UInt8) (c i : Int) (s t : Tm) (tv x y : Value) (w : World) (hc : c = 91 ∨ c = 123) (hi0' : 0 ≤ i) (hi1 : i ≤ 255) (h : Txt w B tv l) (hl : l.length + (s.txt.length + (t.txt.length + 5)) ≤ 50000000)
    (hb : b < B) (hh : w.heap[b]? = some (.cells #[.int .u8 c, .int .u8 i, x, y] 97 (0, 0))) (hx : PT w (fun b => b < B) s x) (hy : PT w (fun b => b < B) t y)
    (ih1 : ∀ (l : List UInt8) (ty : TypeId) (pv tv : Value) (w : World), PT w (fun b => b < B) s (.iface ty pv) → Txt w B tv l → l.length + s.txt.length ≤ 50000000 → Calls Tryz.prog (appF s) #[pv, tv] w (AppP B l s.txt w))
    (ih2 : ∀ (l : List UInt8) (ty : TypeId) (pv tv : Value) (w : World), PT w (fun b => b < B) t (.iface ty pv) → Txt w B tv l → l.length + t.txt.length ≤ 50000000 → Calls Tryz.prog (appF t) #[pv, tv] w (AppP B l t.txt w)) :
    Calls Tryz.prog 154 #[.pointer (some ⟨b, 0, none⟩), tv] w (AppP B l (byt c :: byt i :: 58 :: (s.txt ++ (62 :: (t.txt ++ [byt (c + 2)])))) w) := by
  obtain ⟨i0, hi0, hz0, hz1, hz2⟩ := info_parts infoU8
  obtain ⟨A0, k0, rfl⟩ := h.form
  obtain ⟨tx, px, rfl⟩ := hx.iface
  obtain ⟨ty, py, rfl⟩ := hy.iface
  have HT := Lib.hid h
  have hB := h.2
  have HBC3 := Lib.hid (bc_three (c := c) (i := i) (by omega) (by omega) hi0' hi1)
  have HBC := Lib.hid (bc_byt (c := c + 2) (by omega) (by omega))
  have HLB := Lib.hid (fun w => lastbr_any c hc w)
  have c0 : w.cell? ⟨b, 0, none⟩ = some (.int .u8 c) := cell_of_row w b 0 _ _ (0, 0) hh
  have ci : w.cell? ⟨b, 1, none⟩ = some (.int .u8 i) := cell_of_row w b 1 _ _ (0, 0) hh
  have c1 : w.cell? ⟨b, 2, none⟩ = some (.iface tx px) := cell_of_row w b 2 _ _ (0, 0) hh
  have C0 := Lib.hid c0
  have C2 := Lib.hid (show w.cell? ⟨b, 3, none⟩ = some (.iface ty py) from cell_of_row w b 3 _ _ (0, 0) hh)
  have hm := method_app hx
  have hm2 := method_app hy
  have hrun := fun tv => run_app s px tv
  have hrun2 := fun tv => run_app t py tv
  have HX := Lib.hid hx
  have HY := Lib.hid hy
  have HI1 := Lib.hid ih1
  have HI2 := Lib.hid ih2
  have hbl : b < w.heap.size := by omega
  have HLL := Lib.hid hl
  clear h hh hx hy ih1 ih2 hc
  go_enter Tryz.func154, Tryz.ntmps154
  go_upto_region 1 with fail
  go_cut [1] (fun s1 wx => Hid (Txt wx B s1 (l ++ (byt c :: byt i :: 58 :: s.txt))) ∧ Hid (Below B w wx))
  case first =>
    go_region_law (first
      | (refine step_append_lies _ (by rfl) _ _ _ (by rfl) B 5 i0 _ 1 1 Tryz.underlying22 hi0 hz0 hz1 hz2 rfl (by omega) _ l.length (Lib.byteCells l) (by rfl) (HT.out.keep ((gr_drewN w 1 none).trans (World.grownBy_alloc w.drew (.cells #[.int .u8 c, .int .u8 i, .int .u8 58] 5) none))).1 ⟨w.heap.size, 0, none⟩ 3 3 [.int .u8 c, .int .u8 i, .int .u8 58] (by rfl) (by rfl) (World.news_of_block (cs := #[.int .u8 c, .int .u8 i, .int .u8 58]) (t := 5) (fr := (0, 0)) (heap_alloc_new w.drew _)) (by simp [Value.oneCell']) (by omega) (by simp [maxLen]; omega) (by omega) (by simp; omega) (w.heap.size + 1) (by simp) ?_
         intro gg cap w8 hown8 hg8 hat8 hlt8
         have HR8 := Lib.hid (HT.out.more (m := [byt c, byt i, 58]) ((gr_drewN w 1 none).trans (World.grownBy_alloc w.drew (.cells #[.int .u8 c, .int .u8 i, .int .u8 58] 5) none)) hown8 hg8 (by simp) HBC3.out.symm)
         have c18 := bel_cell HR8.out.2 hb c1
         have c08 := bel_cell HR8.out.2 hb c0
         have ci8 := bel_cell HR8.out.2 hb ci
         clear hown8 hg8 hat8 hlt8)
      | (go_simp
         refine (HI1.out _ tx px _ _ (HX.out.below HR8.out.2) HR8.out.1 (by simp; omega)).mono ?_
         rintro e w9 ⟨v9, rfl, ht9, hb9⟩
         have HT9 := Lib.hid ht9
         have HB9 := Lib.hid (HR8.out.2.trans hb9)
         clear ht9 hb9))
    all_goals
      go_wp2_with fail
      go_meet
      exact ⟨Lib.hid (by have := HT9.out; simpa using this), HB9⟩
  case rest =>
    obtain ⟨HT1, HBW⟩ := hcut
    obtain ⟨A1, k1, rfl⟩ := HT1.out.form
    have c2 := bel_cell HBW.out hb C2.out
    have HY1 := Lib.hid (HY.out.below HBW.out)
    obtain ⟨l1, hl1⟩ : ∃ l1, l ++ (byt c :: byt i :: 58 :: s.txt) = l1 := ⟨_, rfl⟩
    have hll1 : l1.length + (t.txt.length + 2) ≤ 50000000 := by have := HLL.out; rw [← hl1]; simp; omega
    rw [hl1] at HT1
    simp only [hl1]
    have HL1 := Lib.hid hl1
    have hB1 := HT1.out.2
    have hbl1 : b < wc.heap.size := by omega
    clear hl1 c0 ci c1
    go_upto_region 2 with fail
    go_cut [1] (fun s1 wx => Hid (Txt wx B s1 (l1 ++ (62 :: t.txt))) ∧ Hid (Below B w wx))
    case first =>
      go_region_law (first
        | (refine step_append_lies _ (by rfl) _ _ _ (by rfl) B 5 i0 _ 1 1 Tryz.underlying22 hi0 hz0 hz1 hz2 rfl (by omega) _ l1.length (Lib.byteCells l1) (by rfl) (HT1.out.keep ((gr_drewN wc 1 none).trans (World.grownBy_alloc wc.drew (.cells #[.int .u8 62] 5) none))).1 ⟨wc.heap.size, 0, none⟩ 1 1 [.int .u8 62] (by rfl) (by rfl) (World.news_of_block (cs := #[.int .u8 62]) (t := 5) (fr := (0, 0)) (heap_alloc_new wc.drew _)) (by simp [Value.oneCell']) (by omega) (by simp [maxLen]; omega) (by omega) (by simp; omega) (wc.heap.size + 1) (by simp) ?_
           intro gg cap w8 hown8 hg8 hat8 hlt8
           have HR8 := Lib.hid (HT1.out.more (m := [62]) ((gr_drewN wc 1 none).trans (World.grownBy_alloc wc.drew (.cells #[.int .u8 62] 5) none)) hown8 hg8 (by simp) (by rfl))
           have c28 := bel_cell HR8.out.2 hb c2
           clear hown8 hg8 hat8 hlt8)
        | (go_simp
           refine (HI2.out _ ty py _ _ (HY1.out.below HR8.out.2) HR8.out.1 (by simp; omega)).mono ?_
           rintro e w9 ⟨v9, rfl, ht9, hb9⟩
           have HT9 := Lib.hid ht9
           have HB9 := Lib.hid (HR8.out.2.trans hb9)
           clear ht9 hb9))
      all_goals
        go_wp2_with fail
        go_meet
        exact ⟨Lib.hid (by have := HT9.out; simpa using this), Lib.hid (HBW.out.trans HB9.out)⟩
    case rest =>
      obtain ⟨HT2, HBW2⟩ := hcut
      obtain ⟨l2, hl2e⟩ : ∃ l2, l1 ++ (62 :: t.txt) = l2 := ⟨_, rfl⟩
      have hll2 : l2.length + 1 ≤ 50000000 := by rw [← hl2e]; simp; omega
      rw [hl2e] at HT2
      obtain ⟨A2, k2, rfl⟩ := HT2.out.form
      have HL2 := Lib.hid hl2e
      have hB2 := HT2.out.2
      have c0 := bel_cell HBW2.out hb C0.out
      have own1 := (HT2.out.keep (World.grownBy_alloc wc (.cells #[.int .u8 (c + 2)] 5) none)).1
      clear hl2e c2
      go_wp2_with fail
      refine (HLB.out _).mono ?_
      rintro e w' ⟨rfl, rfl⟩
      clear c0
      go_wp2_with (at_builtin; refine wpList_append_own_at _ rfl _ _ 22 rfl B 5 i0 (.int .u8 0) 1 1 Tryz.underlying22 hi0 hz0 hz1 hz2 rfl (by decide) _ _ _ rfl own1 ⟨w'.heap.size, 0, none⟩ 1 1 [.int .u8 (c + 2)] rfl rfl ?a1 ?a2 ?a3 ?a4 ?a5 ?_)
      case a1 => exact cell_one_new _ _ _
      case a2 => simp [Value.oneCell']
      case a3 => simp only [maxLen]; omega
      case a4 => omega
      case a5 => simp; omega
      intro v8 w8 hown8 hg8 _ _
      have HR := Lib.hid (HT2.out.more (m := [byt (c + 2)]) (World.grownBy_alloc w' _ none) hown8 hg8 (by simp) HBC.out.symm)
      clear hown8 hg8 own1
      go_wp2_with fail
      go_ret
      refine ⟨v8, rfl, ?_, HBW2.out.trans HR.out.2⟩
      have := HR.out.1
      rw [← HL2.out, ← HL1.out] at this
      simpa using this
end

section
open Go.RowKit

theorem app_any (B : Nat) : ∀ (t : Tm) (l : List UInt8) (ty : TypeId) (pv tv : Value) (w : World), t.Ok → PT w (fun b => b < B) t (.iface ty pv) → Txt w B tv l → l.length + t.txt.length ≤ 50000000 → Calls Tryz.prog (appF t) #[pv, tv] w (AppP B l t.txt w)
  | .dig c, l, ty, pv, tv, w, ho, h, ht, hl => by
    have hg := isD_ge ho
    cases h
    exact app_dig B l c tv w (by omega) (by omega) ht (by simp [Tm.txt] at hl; omega)
  | .var c, l, ty, pv, tv, w, ho, h, ht, hl => by
    have hg := isV_ge ho
    cases h
    exact app_var B l c tv w (by omega) (by omega) ht (by simp [Tm.txt] at hl; omega)
  | .pre c s, l, ty, pv, tv, w, ho, h, ht, hl => by
    have hg := isP_ge ho.1
    obtain ⟨b, x, hv, hb, hh, hx⟩ := h
    cases hv
    exact app_pre B b l c s tv x w (by omega) (by omega) ht (by simp [Tm.txt] at hl; omega) hb hh hx (fun l ty pv tv w h ht hl => app_any B s l ty pv tv w ho.2 h ht hl)
  | .two c s t, l, ty, pv, tv, w, ho, h, ht, hl => by
    have hg := isB_ge ho.1
    obtain ⟨b, x, y, hv, hb, hh, hx, hy⟩ := h
    cases hv
    exact app_two B b l c s t tv x y w (by omega) (by omega) ht (by simp [Tm.txt] at hl; omega) hb hh hx hy (fun l ty pv tv w h ht hl => app_any B s l ty pv tv w ho.2.1 h ht hl) (fun l ty pv tv w h ht hl => app_any B t l ty pv tv w ho.2.2 h ht hl)
  | .loop c i s t, l, ty, pv, tv, w, ho, h, ht, hl => by
    have hg := isL_ge ho.2.1
    obtain ⟨b, x, y, hv, hb, hh, hx, hy⟩ := h
    cases hv
    exact app_loop B b l c i s t tv x y w ho.1 (by omega) (by omega) ht (by simp [Tm.txt] at hl; omega) hb hh hx hy (fun l ty pv tv w h ht hl => app_any B s l ty pv tv w ho.2.2.1 h ht hl) (fun l ty pv tv w h ht hl => app_any B t l ty pv tv w ho.2.2.2 h ht hl)

/-- A term's text as a string. -/
def bytesOf (l : List UInt8) : ByteArray := ⟨l.toArray⟩
theorem conv_txt {w : World} {B c : Nat} {A : Option Addr} {l : List UInt8} (h : Txt w B (.slice A l.length c) l) : (convert 22 9 (.slice A l.length c)).run Tryz.prog w = .ok (.string (bytesOf l)) w := by
  obtain ⟨s, hs⟩ : ∃ s : ByteArray, s = bytesOf l := ⟨_, rfl⟩
  have e : s.size = l.length := by rw [hs]; simp [bytesOf, ByteArray.size]
  have hat : ∀ i (hi : i < s.size), l[i]? = some s[i] := fun i hi => by
    have hil : i < l.length := by omega
    subst hs
    rw [List.getElem?_eq_getElem hil]
    rfl
  rcases h.1.2 with ⟨hv, hn⟩ | ⟨g, cap, cur, hv, _⟩
  · obtain rfl : l = [] := List.length_eq_zero_iff.1 hn
    simp only [Value.slice.injEq] at hv
    obtain ⟨rfl, _, rfl⟩ := hv
    rw [run_convert_bytes_nil (P := Tryz.prog) (w := w) 22 5 Tryz.underlying22 Tryz.underlying5 _ 0 9 Tryz.underlying9]
    rfl
  · cases hv
    have hb : Lib.Bytes w g 0 s := fun i hi => by
      have := h.1.cellAt i (by omega)
      rw [Nat.zero_add, this, Lib.byteCells, List.getElem?_map, hat i hi]
      rfl
    have := Lib.run_convert_whole (P := Tryz.prog) w 22 5 9 Tryz.underlying22 Tryz.underlying5 Tryz.underlying9 g 0 s hb c
    rw [e, hs] at this
    exact this

set_option maxRecDepth 100000 in
set_option maxHeartbeats 1000000 in
theorem textof_any (t : Tm) (S : Nat → Prop) (ty : TypeId) (pv : Value) (w : World) (ho : t.Ok) (h : PT w S t (.iface ty pv)) (hl : t.txt.length ≤ 50000000) :
    Calls Tryz.prog 27 #[.iface ty pv] w fun e w' => e = .returned (.string (bytesOf t.txt)) ∧ w.grownBy w' none := by
  have hp : PT w (fun b => b < w.heap.size) t (.iface ty pv) := h.keep (fun _ _ _ => rfl) (fun b _ hb => hb) _ _
  have hm := method_app h
  have hrun := fun tv => run_app t pv tv
  have HC := Lib.hid (app_any w.heap.size t [] ty pv (.slice none 0 0) w ho hp ⟨⟨rfl, .inl ⟨rfl, rfl⟩⟩, Nat.le_refl _⟩ (by simpa using hl))
  clear h hp
  go_enter Tryz.func27, Tryz.ntmps27
  go_wp2_with fail
  refine HC.out.mono ?_
  rintro e w1 ⟨v1, rfl, ht1, hb1⟩
  obtain ⟨A, c, rfl⟩ := ht1.form
  have hcv := conv_txt ht1
  rw [List.nil_append] at hcv
  have HB := Lib.hid hb1
  clear hb1 ht1 hm hrun
  go_wp2_with fail
  go_ret
  exact ⟨rfl, ⟨HB.out.os, HB.out.tape, HB.out.output, HB.out.size, fun k hk _ => HB.out.block k hk⟩⟩
end

end Go.Proofs.YtboddoaekcchpaaGreat
