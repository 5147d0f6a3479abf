/- What lay of the program does, at every depth. -/
import Derived.Test.YtachjodnhgmoiaaPut
namespace Go.Proofs.Ytachjodnhgmoiaa
open Go.RowKit

theorem tb00 (v : Value) (xT : TypeId) (w : World) : (Instr.typeAssert (.iface 65 v) xT 65 true).run Try.prog w = .ok (.tuple #[v, .bool true]) w := by
  simp [Instr.typeAssert, run_underlying Try.underlying65, go_sem, Result.andThen]
theorem tb10 (v : Value) (xT : TypeId) (w : World) : (Instr.typeAssert (.iface 67 v) xT 65 true).run Try.prog w = .ok (.tuple #[.int .i64 0, .bool false]) w := by
  simp [Instr.typeAssert, run_underlying Try.underlying65, go_sem, Result.andThen]
theorem tb11 (v : Value) (xT : TypeId) (w : World) : (Instr.typeAssert (.iface 67 v) xT 67 true).run Try.prog w = .ok (.tuple #[v, .bool true]) w := by
  simp [Instr.typeAssert, run_underlying Try.underlying67, go_sem, Result.andThen]
theorem tb20 (v : Value) (xT : TypeId) (w : World) : (Instr.typeAssert (.iface 72 v) xT 65 true).run Try.prog w = .ok (.tuple #[.int .i64 0, .bool false]) w := by
  simp [Instr.typeAssert, run_underlying Try.underlying65, go_sem, Result.andThen]
theorem tb21 (v : Value) (xT : TypeId) (w : World) : (Instr.typeAssert (.iface 72 v) xT 67 true).run Try.prog w = .ok (.tuple #[.pointer none, .bool false]) w := by
  simp [Instr.typeAssert, run_underlying Try.underlying67, go_sem, Result.andThen]
theorem tb22 (v : Value) (xT : TypeId) (w : World) : (Instr.typeAssert (.iface 72 v) xT 72 true).run Try.prog w = .ok (.tuple #[v, .bool true]) w := by
  simp [Instr.typeAssert, run_underlying Try.underlying72, go_sem, Result.andThen]

set_option maxHeartbeats 400000 in
theorem lay0 : LayP 0 := by
  intro t gf base k S v d0 LL D w h hr hS hlen hk hsh hdl
  obtain rfl : v = .iface 65 (.int .i64 ((show Nat from t : Nat) : Int)) := hr
  have hll : LL.length = k := by omega
  have e1 : behind k LL (lv 0 [t]) = LL := by
    rw [behind, List.take_of_length_le (by omega), List.drop_of_length_le (by omega)]
    simp [addL]
  obtain ⟨z, hz⟩ : ∃ z : Int, ((show Nat from t : Nat) : Int) = z := ⟨_, rfl⟩
  have e2 : dat 0 [t] = [z] := by rw [← hz]; rfl
  rw [e2, List.length_append] at hdl
  have HP := Lib.hid (fun w h => put_any gf base z d0 LL D w h (by omega))
  have H := Lib.hid h
  rw [e1, e2, hz]
  have hta := tb00
  clear h hS hsh hdl e1 e2 hz hlen hll
  go_enter Try.func20, Try.ntmps20
  go_wp2_with fail
  refine (HP.out _ H.out).mono ?_
  rintro e w1 ⟨rfl, hb1, d', hf1⟩
  have HB := Lib.hid hb1
  have HF := Lib.hid hf1
  clear hb1 hf1
  go_wp2_with fail
  go_end0
  exact ⟨rfl, HB.out, d', HF.out⟩

set_option maxHeartbeats 1000000 in
theorem lay1 : LayP 1 := by
  intro t gf base k S v d0 LL D w h hr hS hlen hk hsh hdl
  obtain ⟨b, sv, xs, rfl, hb, hh, ho, hxs, ha⟩ := hr
  obtain ⟨A, m, c, rfl⟩ := own_form ho
  have hts : (show List (T 0) from t).length ≤ 1000000 := by
    rw [List.length_append] at hdl
    have e : dat 1 [t] = dat 0 (prt t) := dat_one 0 t
    rw [e] at hdl
    have e2 : (dat 0 (prt t)).length = (show List (T 0) from t).length := List.length_map _
    omega
  have HQ := Lib.hid (layq0 lay0 (show List (T 0) from t) gf base k S A m c xs d0 LL D w h ho hxs ha hS hlen hk hsh hdl hts)
  have hc : w.cell? ⟨b, 0, none⟩ = some (.slice A m c) := by simp [World.cell?, hh]
  have hta := tb10
  have htb := tb11
  simp only [ptrT]
  clear h hb hh ho hxs ha hS hlen hsh hdl hts
  go_enter Try.func20, Try.ntmps20
  go_wp2_with fail
  refine HQ.out.mono ?_
  rintro e w1 ⟨rfl, hb1, d', hf1⟩
  have HB := Lib.hid hb1
  have HF := Lib.hid hf1
  clear hb1 hf1 HQ
  go_wp2_with fail
  go_end0
  exact ⟨rfl, HB.out, d', HF.out⟩

set_option maxRecDepth 100000 in
set_option maxHeartbeats 4000000 in
theorem layqS (dd : Nat) (ih : LayP (dd + 1)) (ts : List (T (dd + 1))) (gf base k : Nat) (S : Nat → Prop) (A : Option Addr) (m e : Nat) (xs : List Value) (d : Value) (LL : List (List Int)) (D : List Int) (w : World) (h : Flat w base gf d LL D)
    (hx : w.ownsRow 0 (elT (dd + 1)) 1 (.slice A m e) xs.length xs) (hxs : ∀ g, (Value.slice A m e).ownBlock = some g → S g) (ha : All2 (Nd w S (dd + 1)) ts xs) (hS : ∀ b, S b → b < base) (hlen : LL.length = k + (dd + 1 + 1)) (hk10 : k + (dd + 1 + 1) ≤ 10)
    (hsh : Short (behind k LL (lv (dd + 1 + 1) [(show T (dd + 1 + 1) from ts)]))) (hdl : (D ++ dat (dd + 1 + 1) [(show T (dd + 1 + 1) from ts)]).length ≤ 1000000) (hts : ts.length ≤ 1000000) :
    Calls Try.prog 33 #[.pointer (some ⟨gf, 0, none⟩), .slice A m e, .int .i64 k] w fun e w' => e = .returned (.tuple #[]) ∧ Below base w w' ∧ ∃ d', Flat w' base gf d' (behind k LL (lv (dd + 1 + 1) [(show T (dd + 1 + 1) from ts)])) (D ++ dat (dd + 1 + 1) [(show T (dd + 1 + 1) from ts)]) := by
  obtain ⟨L, hL⟩ : ∃ L, LL[k]? = some L := ⟨_, List.getElem?_eq_getElem (by omega)⟩
  have hl : L.length ≤ 1000000 := (hsh.of_behind hlen (lv_len _ _)).level hL
  have hmt : ts.length = m := by rw [(prow1 hx).1]; exact All2.length _ _ ha
  have hn1 : (LL.set k (L ++ [(m : Int)])).length = k + 1 + (dd + 1) := by rw [List.length_set]; omega
  have hbe : behind k LL (lv (dd + 1 + 1) [(show T (dd + 1 + 1) from ts)]) = behind (k + 1) (LL.set k (L ++ [(m : Int)])) (lv (dd + 1) ts) := by
    rw [← hmt]; exact behind_node _ hlen hL
  have hde : dat (dd + 1 + 1) [(show T (dd + 1 + 1) from ts)] = dat (dd + 1) ts := dat_one (dd + 1) _
  rw [hbe] at hsh
  rw [hde] at hdl
  rw [hbe, hde]
  have HSH := Lib.hid hsh
  have HDL := Lib.hid hdl
  have HN1 := Lib.hid hn1
  have HMT := Lib.hid hmt
  have HX := Lib.hid (fun (w' : World) (hb : Below base w w') => own_below hx (fun g hg => hS g (hxs g hg)) hb)
  have HA := Lib.hid ha
  have HSS := Lib.hid hS
  have HI := Lib.hid ih
  have HXL := Lib.hid (All2.length _ _ ha)
  have hm6 : m ≤ 1000000 := by omega
  clear hbe hde hsh hdl hn1 hmt hx hxs ha hS ih hlen
  obtain ⟨i0, hi0, hz0, hz1, hz2⟩ := info_parts infoJ
  obtain ⟨g, c, A2, e2, hp, hk, hc, hf, hb, ho, hnx⟩ := len_step (z := (m : Int)) h hL
  have c1 := hp.c1
  have HNX := Lib.hid hnx
  have HO := Lib.hid ho
  obtain ⟨q, hq⟩ : ∃ q, L.length = q := ⟨_, rfl⟩
  obtain ⟨n, hn⟩ : ∃ n, LL.length = n := ⟨_, rfl⟩
  rw [hn] at c1 hk
  rw [hq] at hc hl
  rw [hq, hn] at HNX
  rw [hq] at HO
  have own7 := (HO.out.alloc (.cells #[.int .i64 (m : Int)] 3)).kept (gr_drew _ none) (by cases hv : (Value.slice A2 q e2).ownBlock <;> simp)
  have hc2 := (World.grownBy_alloc w (.cells #[.int .i64 (m : Int)] 3) none).cell hc (by simp)
  have hc3 : ((w.alloc (.cells #[.int .i64 (m : Int)] 3)).drew).cell? ⟨g, k, none⟩ = _ := hc2
  have c2 := (World.grownBy_alloc w (.cells #[.int .i64 (m : Int)] 3) none).cell c1 (by simp)
  have c3 : ((w.alloc (.cells #[.int .i64 (m : Int)] 3)).drew).cell? ⟨gf, 1, none⟩ = _ := c2
  clear hL h hp hnx ho hq hn
  go_enter Try.func33, Try.ntmps33
  go_wp2_with fail
  go_cut [] from 8 to 24 (fun wx => Hid (Below base w wx) ∧ Hid (Flat wx base gf d (LL.set k (L ++ [(m : Int)])) D))
  case first =>
   go_region_law (first
    | (refine step_append_lies _ (by rfl) _ _ _ (by rfl) base 3 i0 _ 1 8 Try.underlying22 hi0 hz0 hz1 hz2 rfl (by omega) (.slice A2 q e2) q (L.map (Value.int .i64)) (by rfl) own7 ⟨w.heap.size, 0, none⟩ 1 1 [.int .i64 (m : Int)] (by rfl) (by rfl) (World.news_of_block (cs := #[.int .i64 (m : Int)]) (t := 3) (fr := (0, 0)) (heap_alloc_new _ _)) (by simp [Value.oneCell']) (by omega) (by simp only [maxLen]; omega) (by omega) (by simp; omega) (w.heap.size + 1) (by simp) ?_
       intro gg cap w8 hown8 hg8 hat8 _
       obtain ⟨⟨y8, hy8⟩, hf8, hc8, hb8, hF8⟩ := HNX.out w8 gg cap (((World.grownBy_alloc w (.cells #[.int .i64 (m : Int)] 3) _).trans (gr_drew _ _)).trans hg8) hown8 (by rcases hat8 with h | h; exact .inl h; right; omega)
       have HB8 := Lib.hid hb8
       have HF8 := Lib.hid hF8
       clear hown8 hg8 hat8 hb8 hF8))
   all_goals
     go_wp2_with fail
     go_meet
     exact ⟨HB8, HF8⟩
  case rest =>
   obtain ⟨HB1, HF1⟩ := hcut
   go_wp2_with fail
   have wk : IntKind.i64.wrap ((k : Int) + 1) = (k : Int) + 1 := IntWalk.i64_in _ (by omega)
   go_loopw [27] (fun i wr => ∃ (j : Nat), j ≤ m ∧ i = .int .i64 j ∧ Hid (Below base w wr) ∧ Hid (∃ d', Flat wr base gf d' (behind (k + 1) (LL.set k (L ++ [(m : Int)])) (lv (dd + 1) (ts.take j))) (D ++ dat (dd + 1) (ts.take j)))) (fun i _ => m - (intOf i).toNat)
   case atStart => exact ⟨0, Nat.zero_le _, rfl, HB1, Lib.hid ⟨d, by rw [List.take_zero, behind_nil HN1.out, dat_nil, List.append_nil]; exact HF1.out⟩⟩
   case round =>
    obtain ⟨j, hj, rfl, hbl, hfe⟩ := hrel
    obtain ⟨d', hfl⟩ := hfe.out
    have HFL := Lib.hid hfl
    clear hfl
    by_cases hlt : j < m
    · obtain ⟨t, x, ht, hx, hnd⟩ := All2.nth (j := j) HA.out (by have := HXL.out; have := HMT.out; omega)
      obtain ⟨g3, rfl, hcells⟩ := (prow1 (HX.out wr hbl.out)).2 (by omega)
      have hcell := hcells j x hx
      have HT := Lib.hid ht
      have HND := Lib.hid (RepI.below (d := dd + 1) (t := t) hnd HSS.out hbl.out)
      obtain ⟨ty, pv, rfl⟩ := RepI.iface (d := dd + 1) (t := t) hnd
      clear hnd
      have HC := Lib.hid (HI.out t gf base (k + 1) S (.iface ty pv) d' _ _ wr HFL.out HND.out HSS.out (behind_len HN1.out (lv_len (dd + 1) _)) (by omega)
        (by rw [behind_step HN1.out ht]; exact HSH.out.part HN1.out) (by rw [List.append_assoc, ← dat_step ht, List.length_append]; have := dat_part (d := dd + 1) (ts := ts) (j + 1); have := HDL.out; rw [List.length_append] at this; omega))
      rw [behind_step HN1.out ht, List.append_assoc, ← dat_step ht] at HC
      rw [show ((k + 1 : Nat) : Int) = (k : Int) + 1 from by omega] at HC
      clear ht hx hcells
      go_wp2_with fail
      refine HC.out.mono ?_
      rintro e w5 ⟨rfl, hb5, d5, hf5⟩
      have HB5 := Lib.hid (hbl.out.trans hb5)
      have HF5 := Lib.hid hf5
      clear hb5 hf5
      go_wp2_with fail
      go_roundw
      case rel => exact ⟨j + 1, by omega, by go_num, HB5, Lib.hid ⟨d5, HF5.out⟩⟩
      case measure => simp [intOf]; omega
    · have hjn : j = m := by omega
      have HJ := Lib.hid hjn
      clear hjn
      go_wp2_with fail
      go_end0
      have e : ts.take j = ts := List.take_of_length_le (by have := HJ.out; have := HMT.out; omega)
      have h2 := HFL.out
      rw [e] at h2
      exact ⟨rfl, hbl.out, d', h2⟩


set_option maxHeartbeats 1000000 in
theorem layS (dd : Nat) (ih : LayP (dd + 1)) : LayP (dd + 1 + 1) := by
  intro t gf base k S v d0 LL D w h hr hS hlen hk hsh hdl
  obtain ⟨b, sv, xs, rfl, hb, hh, ho, hxs, ha⟩ := hr
  obtain ⟨A, m, c, rfl⟩ := own_form ho
  have HQ := Lib.hid (layqS dd ih (show List (T (dd + 1)) from t) gf base k S A m c xs d0 LL D w h ho hxs ha hS hlen hk hsh hdl (by
    obtain ⟨L, hL⟩ : ∃ L, LL[k]? = some L := ⟨_, List.getElem?_eq_getElem (by omega)⟩
    rw [behind_node t hlen hL] at hsh
    exact parts_le (by rw [List.length_set]; omega) hsh))
  have hc : w.cell? ⟨b, 0, none⟩ = some (.slice A m c) := by simp [World.cell?, hh]
  have hta := tb20
  have htb := tb21
  have htc := tb22
  simp only [ptrT]
  clear h hb hh ho hxs ha hS hlen hsh hdl
  go_enter Try.func20, Try.ntmps20
  go_wp2_with fail
  refine HQ.out.mono ?_
  rintro e w1 ⟨rfl, hb1, d', hf1⟩
  have HB := Lib.hid hb1
  have HF := Lib.hid hf1
  clear hb1 hf1 HQ
  go_wp2_with fail
  go_end0
  exact ⟨rfl, HB.out, d', HF.out⟩

theorem lay_any : ∀ d, LayP d
  | 0 => lay0
  | 1 => lay1
  | d + 2 => layS d (lay_any (d + 1))

end Go.Proofs.Ytachjodnhgmoiaa
