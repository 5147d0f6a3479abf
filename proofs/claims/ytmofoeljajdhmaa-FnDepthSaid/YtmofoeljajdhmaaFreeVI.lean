/- FreeVars of the program. -/
import Derived.Test.YtmofoeljajdhmaaSFree
import Derived.Test.YtmofoeljajdhmaaSPts
import Derived.Test.YtmofoeljajdhmaaStrs0
import Derived.Test.YtmofoeljajdhmaaSortW
import Derived.Test.YtmofoeljajdhmaaTFreeL
import Derived.Test.YtmofoeljajdhmaaTTerm
import Derived.Test.YtmofoeljajdhmaaTText
namespace Go.Proofs.Ytmofoeljajdhmaa
section
open Go.RowKit

def vars7 : List Int := [97, 98, 118, 119, 120, 121, 122]
def vt (c : Int) : ByteArray := one c
/-- The variables among the first j that stand free. -/
def frTo (T : Tm) (j : Nat) : ByteArray := bytesOf (((vars7.take j).filter fun c => T.free c).map byt)
def freeA (t : ByteArray) : ByteArray := match readT t with
  | some T => frTo T 7
  | none => ⟨#[]⟩
theorem frTo_step {T : Tm} {j : Nat} {c : Int} (h : vars7[j]? = some c) : frTo T (j + 1) = if T.free c = true then frTo T j ++ one c else frTo T j := by
  unfold frTo
  rw [List.take_add_one, h, List.filter_append, List.map_append]
  split
  · rename_i hf
    rw [← bytesOf_one, ← bytesOf_app]
    simp [hf]
  · rename_i hf
    simp [hf]
theorem frTo_size (T : Tm) (j : Nat) : (frTo T j).size ≤ 7 := by
  unfold frTo
  rw [bytesOf_size, List.length_map]
  refine Nat.le_trans (List.length_filter_le _ _) ?_
  rw [List.length_take]
  show min j 7 ≤ 7
  omega

theorem one_eq (c : Int) : one c = ⟨#[byt c]⟩ := by
  apply ByteArray.ext
  apply Array.toList_inj.1
  rw [one_data]
def s7V : List ByteArray := [⟨#[97]⟩, ⟨#[98]⟩, ⟨#[118]⟩, ⟨#[119]⟩, ⟨#[120]⟩, ⟨#[121]⟩, ⟨#[122]⟩]
theorem s7V_at {j : Nat} (h : j < 7) : ∃ c, vars7[j]? = some c ∧ s7V[j]? = some (one c) ∧ 0 < c ∧ c ≤ 122 := by
  match j, h with
  | 0, _ => exact ⟨97, rfl, by rw [one_eq]; rfl, by omega, by omega⟩
  | 1, _ => exact ⟨98, rfl, by rw [one_eq]; rfl, by omega, by omega⟩
  | 2, _ => exact ⟨118, rfl, by rw [one_eq]; rfl, by omega, by omega⟩
  | 3, _ => exact ⟨119, rfl, by rw [one_eq]; rfl, by omega, by omega⟩
  | 4, _ => exact ⟨120, rfl, by rw [one_eq]; rfl, by omega, by omega⟩
  | 5, _ => exact ⟨121, rfl, by rw [one_eq]; rfl, by omega, by omega⟩
  | 6, _ => exact ⟨122, rfl, by rw [one_eq]; rfl, by omega, by omega⟩
  | n + 7, h => exact absurd h (by omega)
theorem one_ix {c : Int} (h : 0 < (one c).size) (h0 : 0 ≤ c) (h1 : c ≤ 255) : ((((one c)[0]'h).toNat : Nat) : Int) = c := by
  have : ∀ (s : ByteArray) (hs : s = ⟨#[byt c]⟩) (h : 0 < s.size), (s[0]'h) = byt c := by rintro s rfl h; rfl
  rw [this _ (one_eq c) h]
  exact byt_back h0 h1
theorem strs_newV (w : World) (ss : List ByteArray) (ty : TypeId) : Strs (w.alloc (.cells (List.toArray (List.map Value.string ss)) ty)) (some ⟨w.heap.size, 0, none⟩) ss := fun _ =>
  ⟨_, _, rfl, by simp, fun j s hj => by
    have h1 := heap_alloc_new w (.cells (List.toArray (List.map Value.string ss)) ty)
    simp only [World.cell?, h1]
    simp [hj]⟩
theorem sterm_shapeV {s : ByteArray} {w w' : World} {e : Ending} (h : STermPost s w e w') : ∃ a b A k c o, e = .returned (.tuple #[.agg #[.int .u8 a, .int .u8 b, .slice A k c], .bool o]) ∧ w.grownBy w' none ∧ (readT s).isSome = o ∧
    ∀ T, readT s = some T → SN w' (fun b => w.heap.size ≤ b) T (a, b, .slice A k c) := by
  unfold STermPost at h
  cases hr : readT s with
  | none => rw [hr] at h; exact ⟨_, _, _, _, _, _, h.1, h.2, rfl, fun T hT => by cases hT⟩
  | some T =>
    rw [hr] at h
    obtain ⟨a, b, A, k, c, he, hg, hs⟩ := h
    exact ⟨_, _, _, _, _, _, he, hg, rfl, fun T hT => by cases hT; exact hs⟩

set_option maxRecDepth 100000 in
set_option maxHeartbeats 1000000 in
theorem freev_spec (t : ByteArray) (ht : t.size ≤ 1048576) (w : World) :
    Calls Try.prog 15 #[.string t] w fun e w' => e = .returned (.string (freeA t)) ∧ w.grownBy w' none := by
  have H1 := Lib.hid (fun w => sterm_any t ht w)
  go_enter Try.func15, Try.ntmps15
  go_wp2_with fail
  refine (H1.out _).mono ?_
  intro e w1 hp
  obtain ⟨a1, b1, A1, k1, c1, o, rfl, hg1, ho1, hs1⟩ := sterm_shapeV hp
  obtain ⟨x1, hx1⟩ : ∃ x, w1.alloc (.cells #[.int .u8 a1, .int .u8 b1, .slice A1 k1 c1] 70) = x := ⟨_, rfl⟩
  obtain ⟨n1, hn1⟩ : ∃ x, w1.heap.size = x := ⟨_, rfl⟩
  obtain ⟨x2, hx2⟩ : ∃ x, x1.alloc (.cells #[.string ⟨#[97]⟩, .string ⟨#[98]⟩, .string ⟨#[118]⟩, .string ⟨#[119]⟩, .string ⟨#[120]⟩, .string ⟨#[121]⟩, .string ⟨#[122]⟩] 9) = x := ⟨_, rfl⟩
  obtain ⟨n2, hn2⟩ : ∃ x, x1.heap.size = x := ⟨_, rfl⟩
  have gx1 : w1.grownBy x1 none := by rw [← hx1]; exact World.grownBy_alloc _ _ _
  have gx2 : x1.grownBy x2 none := by rw [← hx2]; exact World.grownBy_alloc _ _ _
  have C1 := Lib.hid ((show C3 x1 n1 (.int .u8 a1) (.int .u8 b1) (.slice A1 k1 c1) 70 by rw [← hx1, ← hn1]; exact c3_new _ _ _ _ _).grown gx2 (by simp))
  have HST := Lib.hid (show Strs x2 (some ⟨n2, 0, none⟩) s7V by rw [← hx2, ← hn2]; exact strs_newV x1 s7V _)
  have HG := Lib.hid ((hg1.trans gx1).trans gx2)
  have HO := Lib.hid ho1
  have HS := Lib.hid (fun T hT => ((hs1 T hT).grown gx1).grown gx2)
  clear hg1 gx1 gx2 ho1 hs1 hp
  cases o
  · have hres : freeA t = ⟨#[]⟩ := by
      unfold freeA
      cases hr : readT t with
      | none => rfl
      | some T => have := HO.out; rw [hr] at this; cases this
    have HRES := Lib.hid hres
    clear hres
    go_wp2_with fail
    go_loopw [3, 15] (fun q i wr => ∃ j : Nat, j ≤ 7 ∧ i = .int .i64 j ∧ q = .string ⟨#[]⟩ ∧ Hid (x2.grownBy wr none)) (fun _ i _ => 7 - (intOf i).toNat)
    case atStart => exact ⟨0, Nat.zero_le _, rfl, rfl, Lib.hid (gr_refl _ _)⟩
    case round =>
      obtain ⟨j, hj, rfl, rfl, hgr⟩ := hrel
      by_cases hlt : j < 7
      · obtain ⟨c, _, hz, _, _⟩ := s7V_at hlt
        obtain ⟨b, off, e, _, hcc⟩ := HST.out (by decide)
        cases e
        have hcell := hgr.out.cell (hcc j _ hz) (by simp)
        rw [Nat.zero_add] at hcell
        clear hz hcc
        go_wp2_with fail
        go_quiet (fail)
        go_wp2_with fail
        go_roundw
        case rel => exact ⟨j + 1, by omega, by go_num, rfl, Lib.hid (hgr.out.trans (gr_drewN _ _ _))⟩
        case measure => simp [intOf]; omega
      · go_wp2_with fail
        go_ret
        refine ⟨?_, HG.out.trans hgr.out⟩
        rw [HRES.out]
        rfl
  · obtain ⟨T, hT⟩ : ∃ T, readT t = some T := Option.isSome_iff_exists.1 HO.out
    have hres : freeA t = frTo T 7 := by unfold freeA; rw [hT]
    have HRES := Lib.hid hres
    have HT4 := Lib.hid (readT_some hT)
    have HSN := Lib.hid (HS.out T hT)
    clear hres hT
    go_wp2_with fail
    go_loopw [3, 15] (fun q i wr => ∃ j : Nat, j ≤ 7 ∧ i = .int .i64 j ∧ q = .string (frTo T j) ∧ Hid (x2.grownBy wr none)) (fun _ i _ => 7 - (intOf i).toNat)
    case atStart => exact ⟨0, Nat.zero_le _, rfl, rfl, Lib.hid (gr_refl _ _)⟩
    case round =>
      obtain ⟨j, hj, rfl, rfl, hgr⟩ := hrel
      by_cases hlt : j < 7
      · obtain ⟨c, hc, hz, hc0, hc1⟩ := s7V_at hlt
        obtain ⟨b, off, e, _, hcc⟩ := HST.out (by decide)
        cases e
        have hcell := hgr.out.cell (hcc j _ hz) (by simp)
        rw [Nat.zero_add] at hcell
        have hstep := Lib.hid (frTo_step (T := T) hc)
        have hsize := frTo_size T j
        have p0 := hgr.out.cell C1.out.c0 (by simp)
        have p1 := hgr.out.cell C1.out.c1 (by simp)
        have p2 := hgr.out.cell C1.out.c2 (by simp)
        have HF := Lib.hid (fun (u : World) (hu : x2.grownBy u none) => sfree_any T.size T _ a1 b1 A1 k1 c1 c u (Nat.le_refl _) HT4.out.2.2.1 hc0 (HSN.out.grown hu))
        obtain ⟨fr, hfr⟩ : ∃ x, T.free c = x := ⟨_, rfl⟩
        rw [hfr] at hstep HF
        have hone : (one c).size = 1 := one_size c
        have hix := one_ix (c := c) (by omega) (by omega) (by omega)
        obtain ⟨acc, hacc⟩ : ∃ x, frTo T j = x := ⟨_, rfl⟩
        rw [hacc] at hstep hsize ⊢
        clear hz hcc hc hfr hacc
        go_wp2_with fail
        go_region_law (first
          | (go_simp
             go_at_call 72
             refine (HF.out _ (hgr.out.trans (gr_drewN wr 1 none))).mono ?_
             rintro e wa ⟨rfl, hga⟩
             have HGa := Lib.hid ((gr_drewN wr 1 none).trans hga)
             clear hga))
        all_goals
          cases fr
          · go_wp2_with fail
            go_roundw
            case rel => exact ⟨j + 1, by omega, by go_num, by rw [hstep.out]; rfl, Lib.hid (hgr.out.trans HGa.out)⟩
            case measure => simp [intOf]; omega
          · go_wp2_with fail
            go_roundw
            case rel => exact ⟨j + 1, by omega, by go_num, by rw [hstep.out]; rfl, Lib.hid (hgr.out.trans HGa.out)⟩
            case measure => simp [intOf]; omega
      · have hj7 : j = 7 := by omega
        subst hj7
        go_wp2_with fail
        go_ret
        refine ⟨?_, HG.out.trans hgr.out⟩
        rw [HRES.out]
        rfl
end

section
open Go.RowKit

theorem freeV_isV : ∀ (t : Tm) (v : Int), t.Ok → t.free v = true → isV v = true
  | .dig c, v, _, h => by simp [Tm.free] at h
  | .var c, v, ho, h => by
    simp only [Tm.free, decide_eq_true_eq] at h
    subst h
    exact ho
  | .pre c s, v, ho, h => freeV_isV s v ho.2 h
  | .two c s t, v, ho, h => by
    simp only [Tm.free, Bool.or_eq_true] at h
    rcases h with h | h
    · exact freeV_isV s v ho.2.1 h
    · exact freeV_isV t v ho.2.2 h
  | .loop c i s t, v, ho, h => by
    simp only [Tm.free, Bool.or_eq_true, Bool.and_eq_true] at h
    rcases h with h | h
    · exact freeV_isV s v ho.2.2.1 h
    · exact freeV_isV t v ho.2.2.2 h.2
theorem isV_seven {v : Int} (h : isV v = true) : v ∈ ([97, 98, 118, 119, 120, 121, 122] : List Int) := by
  unfold isV at h
  simp only [decide_eq_true_eq] at h
  simp only [List.mem_cons, List.not_mem_nil, or_false]
  omega
theorem leV_same : ∀ {l k : List Int}, leV l → leV k → l.Nodup → k.Nodup → (∀ x, x ∈ l ↔ x ∈ k) → l = k
  | [], k, _, _, _, _, h => by
    cases k with
    | nil => rfl
    | cons y k => exact absurd ((h y).2 (by simp)) (by simp)
  | x :: l, [], _, _, _, _, h => absurd ((h x).1 (by simp)) (by simp)
  | x :: l, y :: k, h1, h2, n1, n2, h => by
    obtain ⟨hx, h3⟩ := List.pairwise_cons.1 h1
    obtain ⟨hy, h4⟩ := List.pairwise_cons.1 h2
    obtain ⟨nx, n3⟩ := List.nodup_cons.1 n1
    obtain ⟨ny, n4⟩ := List.nodup_cons.1 n2
    have e : x = y := by
      rcases List.mem_cons.1 ((h x).1 (by simp)) with e | g1
      · exact e
      · rcases List.mem_cons.1 ((h y).2 (by simp)) with e | g2
        · exact e.symm
        · have := hx y g2
          have := hy x g1
          omega
    subst e
    refine congrArg (x :: ·) (leV_same h3 h4 n3 n4 fun z => ⟨fun hz => ?_, fun hz => ?_⟩)
    · rcases List.mem_cons.1 ((h z).1 (List.mem_cons_of_mem _ hz)) with e | g
      · subst e; exact absurd hz nx
      · exact g
    · rcases List.mem_cons.1 ((h z).2 (List.mem_cons_of_mem _ hz)) with e | g
      · subst e; exact absurd hz ny
      · exact g
theorem vars7_le : leV vars7 := by unfold leV vars7; decide
theorem vars7_nd : vars7.Nodup := by unfold vars7; decide
theorem sorted_free {T : Tm} {ss : List Int} (ho : T.Ok) (h : SetOf T.free ss) (hl : leV ss) : bytesOf (ss.map byt) = frTo T 7 := by
  have e : ss = vars7.filter fun c => T.free c := leV_same hl (vars7_le.filter _) h.1 (vars7_nd.filter _) (fun x => by
    rw [h.2 x, List.mem_filter]
    constructor
    · rintro ⟨_, _, hf⟩
      exact ⟨isV_seven (freeV_isV T x ho hf), hf⟩
    · rintro ⟨hx, hf⟩
      have := isV_ge (freeV_isV T x ho hf)
      exact ⟨by omega, by omega, hf⟩)
  unfold frTo
  rw [e]
  rfl

theorem gr_below {w w' : World} (h : Below w.heap.size w w') : w.grownBy w' none := ⟨h.os, h.tape, h.output, h.size, fun k hk _ => h.block k hk⟩

set_option maxRecDepth 100000 in
set_option maxHeartbeats 4000000 in
theorem freev_impl (t : ByteArray) (w : World) :
    Calls Try.prog 16 #[.string t] w fun e w' => e = .returned (.string (freeA t)) ∧ w.grownBy w' none := by
  obtain ⟨i0, hi0, hz0, hz1, hz2⟩ := info_parts infoU8
  have H := Lib.hid (term_any t w)
  obtain ⟨res, hb⟩ : ∃ b, freeA t = b := ⟨_, rfl⟩
  rw [hb]
  have HB := Lib.hid hb
  clear hb
  go_enter Try.func16, Try.ntmps16
  go_wp2_with fail
  refine H.out.mono ?_
  intro e w0 hp
  unfold TermPost at hp
  have hb := HB.out
  unfold freeA at hb
  cases hr : readT t with
  | none =>
    rw [hr] at hp hb
    subst hb
    obtain ⟨rfl, hg⟩ := hp
    have HG := Lib.hid hg
    clear hg hr
    go_wp2_with fail
    go_ret
    exact ⟨rfl, HG.out⟩
  | some T =>
    rw [hr] at hp hb
    obtain ⟨v, rfl, hg, hpt⟩ := hp
    obtain ⟨ty, pv, rfl⟩ := hpt.iface
    have HT4 := Lib.hid (readT_some hr)
    have HF := Lib.hid (free_any T.size T _ (.iface ty pv) w0 (Nat.le_refl _) (by have := HT4.out.2.2.2; omega) HT4.out.2.2.1 hpt)
    have HG := Lib.hid hg
    have HRES : Hid (frTo T 7 = res) := Lib.hid hb
    clear hg hpt hr hb
    go_wp2_with fail
    refine HF.out.mono ?_
    rintro e w1 ⟨b, rfl, _, hg1, hvs⟩
    have HG1 := Lib.hid (HG.out.trans hg1)
    have HVS := Lib.hid hvs
    clear hg1 hvs
    go_wp2_with fail
    refine (keysmake b w1).mono ?_
    rintro e w2 ⟨rfl, hw2⟩
    have hg2 : w1.grownBy w2 none := by rw [hw2]; exact World.grownBy_alloc _ _ _
    have HSRT := Lib.hid (sortedV w1.heap.size b T.size T.free w2 (HVS.out.grown hg2 (by simp)) (fun x hx => isV_seven (freeV_isV T x HT4.out.2.2.1 hx)) (by rw [hw2]; exact heap_alloc_new _ _))
    have HG2 := Lib.hid (HG1.out.trans hg2)
    clear hg2 hw2
    go_wp2_with fail
    refine HSRT.out.mono ?_
    rintro e w3 ⟨A, n, cap, ss, rfl, hs1, hs2, hs3, hg3, ho⟩
    have HG3 := Lib.hid (HG2.out.trans hg3)
    have HN := Lib.hid hs3
    have HN7 : n ≤ 7 := by rw [← hs3]; exact setof_len hs1 (fun x hx => isV_seven (freeV_isV T x HT4.out.2.2.1 hx))
    have HRS : Hid (bytesOf (ss.map byt) = res) := Lib.hid (by rw [sorted_free HT4.out.2.2.1 hs1 hs2]; exact HRES.out)
    have HBD := Lib.hid (fun x (hx : x ∈ ss) => ((hs1.2 x).1 hx))
    obtain ⟨_, _, hrow⟩ := orow ho
    have HROW := Lib.hid hrow
    clear hg3 hs1 hs2 hs3 ho hrow
    go_wp2_with fail
    go_loopw [5, 20] (fun u i wr => ∃ j : Nat, j ≤ n ∧ i = .int .i64 j ∧ Hid (Txt wr w3.heap.size u ((ss.map byt).take j)) ∧ Hid (Below w3.heap.size w3 wr)) (fun _ i _ => n - (intOf i).toNat)
    case atStart => exact ⟨0, Nat.zero_le _, rfl, Lib.hid ⟨⟨rfl, .inl ⟨rfl, rfl⟩⟩, Nat.le_refl _⟩, Lib.hid (by exact ⟨rfl, rfl, rfl, Nat.le_refl _, fun _ _ => rfl⟩)⟩
    case round =>
      obtain ⟨j, hj, rfl, htx, hbl⟩ := hrel
      by_cases hlt : j < n
      · obtain ⟨g, rfl, _, hg1, hcell⟩ := HROW.out (by omega)
        obtain ⟨x, hx⟩ : ∃ x, ss[j]? = some x := ⟨_, List.getElem?_eq_getElem (by have := HN.out; omega)⟩
        have hc := (gr_below hbl.out).cell (hcell j _ (varV_at hx)) (by simp)
        have hxb := HBD.out x (List.mem_of_getElem? hx)
        obtain ⟨A0, c0, rfl⟩ := htx.out.form
        have own1 := (htx.out.keep (World.grownBy_alloc wr (.cells #[.int .u8 x] 5) none)).1
        have HBC := Lib.hid (bc_byt hxb.1 hxb.2.1)
        have hlj : ((ss.map byt).take j).length = j := by rw [List.length_take, List.length_map]; have := HN.out; omega
        have HLJ := Lib.hid hlj
        have hw3 := hbl.out.size
        have HX := Lib.hid (take_snoc' (show (ss.map byt)[j]? = some (byt x) by rw [List.getElem?_map, hx]; rfl))
        rw [hlj] at own1
        have htxj := htx.out
        rw [hlj] at htxj
        have HT := Lib.hid htxj
        clear htxj
        clear hcell hx
        rw [hlj]
        go_wp2_with (at_builtin; refine wpList_append_own_at _ rfl _ _ 27 rfl w3.heap.size 5 i0 (.int .u8 0) 1 1 Try.underlying27 hi0 hz0 hz1 hz2 rfl (by decide) _ _ _ rfl own1 ⟨wr.heap.size, 0, none⟩ 1 1 [.int .u8 x] rfl rfl ?a1 ?a2 ?a3 ?a4 ?a5 ?_)
        case a1 => exact cell_one_new _ _ _
        case a2 => simp [Value.oneCell']
        case a3 => simp only [maxLen]; omega
        case a4 => omega
        case a5 => simp; omega
        intro v8 w8 hown8 hg8 _ _
        obtain ⟨A8, k8, c8, rfl⟩ := own_form hown8
        have HR := Lib.hid (HT.out.more (m := [byt x]) (World.grownBy_alloc wr (.cells #[.int .u8 x] 5) none) hown8 hg8 (by rw [List.length_append, HLJ.out, List.length_singleton]) HBC.out.symm)
        rw [HX.out] at HR
        clear hown8 hg8 own1
        go_wp2_with fail
        go_roundw
        case rel => exact ⟨j + 1, by omega, by go_num, Lib.hid HR.out.1, Lib.hid (hbl.out.trans HR.out.2)⟩
        case measure => simp [intOf]; omega
      · have hjn : j = n := by omega
        have HJ := Lib.hid hjn
        obtain ⟨A0, c0, rfl⟩ := htx.out.form
        have hcv := conv_txt htx.out
        have hall : (ss.map byt).take j = ss.map byt := by rw [List.take_of_length_le (by rw [List.length_map]; have := HN.out; have := HJ.out; omega)]
        rw [hall] at hcv
        rw [hall]
        have HRS2 := HRS.out
        rw [HRS2] at hcv
        obtain ⟨l8, hl8⟩ : ∃ l, (ss.map byt).length = l := ⟨_, rfl⟩
        rw [hl8] at hcv ⊢
        clear hjn hall
        go_wp2_with fail
        go_ret
        exact ⟨rfl, HG3.out.trans (gr_below hbl.out)⟩
end

end Go.Proofs.Ytmofoeljajdhmaa
