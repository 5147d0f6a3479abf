/- What ShapeOf of the program does: the greatest lengths of all levels, if the least ones are the same. -/
import Derived.Shelf.Abstract
import Derived.Test.YtachjodnhgmoiaaSlMax
import Derived.Test.YtachjodnhgmoiaaA3Eq
import Derived.Test.YtachjodnhgmoiaaLayImpl
import Derived.Test.YtachjodnhgmoiaaOwnZ
namespace Go.Proofs.Ytachjodnhgmoiaa
open Go.RowKit Go.Shelf

abbrev TSh : TypeId := 34
/-- A block that holds an array of three ints. -/
def A3 (w : World) (g : Nat) (a b c : Int) : Prop := w.heap[g]? = some (.cells #[.int .i64 a, .int .i64 b, .int .i64 c] TSh (0, 0))
section
variable {w w' : World} {g : Nat} {a b c : Int}
theorem A3.lt (h : A3 w g a b c) : g < w.heap.size := (Array.getElem?_eq_some_iff.1 h).1
theorem A3.c0 (h : A3 w g a b c) : w.cell? ⟨g, 0, none⟩ = some (.int .i64 a) := cell_of_row w g 0 _ _ (0, 0) h
theorem A3.c1 (h : A3 w g a b c) : w.cell? ⟨g, 1, none⟩ = some (.int .i64 b) := cell_of_row w g 1 _ _ (0, 0) h
theorem A3.c2 (h : A3 w g a b c) : w.cell? ⟨g, 2, none⟩ = some (.int .i64 c) := cell_of_row w g 2 _ _ (0, 0) h
theorem A3.f (h : A3 w g a b c) (i : Nat) : w.frozen? ⟨g, i, none⟩ = false := by
  unfold A3 at h
  simp [World.frozen?, h]
theorem A3.grown {row : Option Nat} (h : A3 w g a b c) (hg : w.grownBy w' row) (hne : some g ≠ row) : A3 w' g a b c := (hg.block g h.lt hne).trans h
theorem A3.alloc (h : A3 w g a b c) (o : Obj) : A3 (w.alloc o) g a b c := (Below.heap_alloc w o g h.lt).trans h
theorem A3.set0 (h : A3 w g a b c) (x : Int) : A3 (w.setCell ⟨g, 0, none⟩ (.int .i64 x)) g x b c := by
  unfold A3 at h ⊢
  simp [World.setCell, Array.getElem?_modify, h]
theorem A3.set1 (h : A3 w g a b c) (x : Int) : A3 (w.setCell ⟨g, 1, none⟩ (.int .i64 x)) g a x c := by
  unfold A3 at h ⊢
  simp [World.setCell, Array.getElem?_modify, h]
theorem A3.set2 (h : A3 w g a b c) (x : Int) : A3 (w.setCell ⟨g, 2, none⟩ (.int .i64 x)) g a b x := by
  unfold A3 at h ⊢
  simp [World.setCell, Array.getElem?_modify, h]
theorem A3.far (h : A3 w g a b c) {k i : Nat} (hk : g ≠ k) (u : Value) : A3 (w.setCell ⟨k, i, none⟩ u) g a b c := (Below.heap_setCell _ _ _ _ hk).trans h
theorem A3.new (w : World) : A3 (w.alloc (.cells #[.int .i64 0, .int .i64 0, .int .i64 0] TSh)) w.heap.size 0 0 0 := heap_alloc_new _ _
end
/-- A block that holds a padded list. -/
def AP (w : World) (g : Nat) (zs : List Int) : Prop := ∃ a b c, pad3 zs = [a, b, c] ∧ A3 w g a b c
theorem AP.cellj {w : World} {g : Nat} {zs : List Int} (h : AP w g zs) (hl : zs.length < 3) : ∃ x, w.cell? ⟨g, zs.length, none⟩ = some (.int .i64 x) := by
  obtain ⟨a, b, c, _, h⟩ := h
  obtain ⟨n, hn⟩ : ∃ n, zs.length = n := ⟨_, rfl⟩
  rw [hn] at hl ⊢
  match n, hl with
  | 0, _ => exact ⟨a, h.c0⟩
  | 1, _ => exact ⟨b, h.c1⟩
  | 2, _ => exact ⟨c, h.c2⟩
theorem AP.setj {w : World} {g : Nat} {zs : List Int} (h : AP w g zs) (hl : zs.length < 3) (x : Int) : AP (w.setCell ⟨g, zs.length, none⟩ (.int .i64 x)) g (zs ++ [x]) := by
  obtain ⟨a, b, c, he, h⟩ := h
  have hp := pad3_set (z := x) hl
  rw [he] at hp
  obtain ⟨n, hn⟩ : ∃ n, zs.length = n := ⟨_, rfl⟩
  rw [hn] at hl hp ⊢
  match n, hl with
  | 0, _ => exact ⟨x, b, c, hp.symm, h.set0 x⟩
  | 1, _ => exact ⟨a, x, c, hp.symm, h.set1 x⟩
  | 2, _ => exact ⟨a, b, x, hp.symm, h.set2 x⟩
theorem AP.grown {w w' : World} {g : Nat} {zs : List Int} {row : Option Nat} (h : AP w g zs) (hg : w.grownBy w' row) (hne : some g ≠ row) : AP w' g zs := by
  obtain ⟨a, b, c, he, h⟩ := h
  exact ⟨a, b, c, he, h.grown hg hne⟩

/-- What a function of lengths gives that shapeBy is handed. -/
structure Chooses (gf : Nat) (f : List Int → Int) : Prop where
  enters : ∀ (args : Array Value) (w : World), (callFunc gf args).run Try.prog w = .ok (.enter gf args) w
  call : ∀ (A : Option Addr) (c : Nat) (L : List Int) (w : World), Ints w A L → 0 < L.length → L.length ≤ 1099511627776 → Calls Try.prog gf #[.slice A L.length c] w fun e w' => e = .returned (.int .i64 (f L)) ∧ w = w'
  none : f [] = 0

set_option maxRecDepth 100000 in
set_option maxHeartbeats 1000000 in
theorem shapeby_any (gf : Nat) (f : List Int → Int) (hf : Chooses gf f) (v : Value) (LL : List (List Int)) (D : List Int) (w : World) (h : Lyt w v LL D) (hl : LL.length ≤ 3) (hsz : ∀ M ∈ LL, M.length ≤ 1099511627776) :
    Calls Try.prog 22 #[.func (.func gf) #[] #[], v] w fun e w' => ∃ x y z, pad3 (LL.map f) = [x, y, z] ∧ e = .returned (.agg #[.int .i64 x, .int .i64 y, .int .i64 z]) ∧ w.grownBy w' none := by
  obtain ⟨A, c, B, d, rfl, _, _, hR, _⟩ := h
  have HR := Lib.hid hR
  have HF := Lib.hid hf
  have HSZ := Lib.hid hsz
  obtain ⟨n, hn⟩ : ∃ n, LL.length = n := ⟨_, rfl⟩
  obtain ⟨m, hm⟩ : ∃ m, D.length = m := ⟨_, rfl⟩
  have HN := Lib.hid hn
  rw [hn] at hl ⊢
  rw [hm]
  clear hR hf hsz hn hm
  have HP := Lib.hid ((Pr.new w 30 (.slice A n c) (.slice B m d)).alloc (.cells #[.int .i64 0, .int .i64 0, .int .i64 0] TSh) |>.alloc (.cells #[.int .i64 0, .int .i64 0, .int .i64 0] TSh))
  have HA1 := Lib.hid ((A3.new (w.alloc (.cells #[.slice A n c, .slice B m d] 30))).alloc (.cells #[.int .i64 0, .int .i64 0, .int .i64 0] TSh))
  have HA2 := Lib.hid (A3.new ((w.alloc (.cells #[.slice A n c, .slice B m d] 30)).alloc (.cells #[.int .i64 0, .int .i64 0, .int .i64 0] TSh)))
  have HG := Lib.hid ((World.grownBy_alloc w (.cells #[.slice A n c, .slice B m d] 30) none).trans ((World.grownBy_alloc _ (.cells #[.int .i64 0, .int .i64 0, .int .i64 0] TSh) none).trans (World.grownBy_alloc _ (.cells #[.int .i64 0, .int .i64 0, .int .i64 0] TSh) none)))
  go_enter Try.func22, Try.ntmps22
  have p0 := HP.out.c0
  go_wp2_with fail
  generalize ((w.alloc (.cells #[.slice A n c, .slice B m d] 30)).alloc (.cells #[.int .i64 0, .int .i64 0, .int .i64 0] TSh)).alloc (.cells #[.int .i64 0, .int .i64 0, .int .i64 0] TSh) = w0 at HP HA1 HA2 HG p0 ⊢
  have HSZ2 : w.heap.size + 3 ≤ w0.heap.size := by have := HA2.out.lt; simp at this; omega
  have hsz0 : (w.alloc (.cells #[.slice A n c, .slice B m d] 30)).heap.size = w.heap.size + 1 := by simp
  go_loopw [6, 7, 11] (fun _ _ i wr => ∃ (j : Nat), j ≤ n ∧ i = .int .i64 j ∧ Hid (AP wr (w.heap.size + 1 + 1) ((LL.map f).take j)) ∧ Hid (A3 wr (w.heap.size + 1) 0 0 0) ∧ Hid (w.grownBy wr none)) (fun _ _ i _ => n - (intOf i).toNat)
  case atStart => exact ⟨0, Nat.zero_le _, rfl, Lib.hid ⟨0, 0, 0, rfl, by have := HA2.out; simpa using this⟩, Lib.hid (by have := HA1.out; simpa using this), HG⟩
  case round =>
    obtain ⟨j, hj, rfl, ha, hb, hgr⟩ := hrel
    by_cases hlt : j < n
    · obtain ⟨L, hL⟩ : ∃ L, LL[j]? = some L := ⟨_, List.getElem?_eq_getElem (by have := HN.out; omega)⟩
      obtain ⟨b, off, rfl, _, hc⟩ := (HR.out.grown hgr.out) (by have := HN.out; omega)
      obtain ⟨Bj, cj, hcj, hlc, hij⟩ := hc j L hL
      have hlen := HSZ.out L (List.mem_of_getElem? hL)
      have htl : ((LL.map f).take j).length = j := by have := HN.out; simp; omega
      have hst : (LL.map f).take (j + 1) = (LL.map f).take j ++ [f L] := by rw [List.take_add_one, List.getElem?_map, hL]; rfl
      have HST := Lib.hid hst
      have HTL := Lib.hid htl
      have HIJ := Lib.hid hij
      obtain ⟨k, hk⟩ : ∃ k, L.length = k := ⟨_, rfl⟩
      have HK := Lib.hid hk
      have hcx := ha.out.cellj (by omega)
      rw [htl] at hcx
      obtain ⟨x, hcx⟩ := hcx
      have hfx : wr.frozen? ⟨w.heap.size + 1 + 1, j, none⟩ = false := by
        obtain ⟨_, _, _, _, h⟩ := ha.out
        exact h.f j
      have HS := Lib.hid (ha.out.setj (by omega) (f L))
      rw [htl] at HS
      have HLE := Lib.hid hL
      rw [hk] at hcj hlen
      clear hL hc hij hst htl hk
      by_cases hk0 : k = 0
      · have hLn : L = [] := List.eq_nil_of_length_eq_zero (by rw [HK.out]; exact hk0)
        have HLN := Lib.hid hLn
        have hd : decide ((k : Int) > 0) = false := decide_eq_false (by omega)
        clear hLn
        go_wp2_with fail
        go_roundw
        case rel =>
          refine ⟨j + 1, by omega, by go_num, Lib.hid ?_, hb, hgr⟩
          rw [HST.out, HLN.out, HF.out.none]
          have h1 := ha.out
          have h2 : ∀ zs : List Int, zs.length < 3 → AP wr (w.heap.size + 1 + 1) zs → AP wr (w.heap.size + 1 + 1) (zs ++ [0]) := by
            rintro zs hz ⟨a, b, c, he, h⟩
            refine ⟨a, b, c, ?_, h⟩
            rw [← he]
            unfold pad3
            rw [List.append_assoc]
            congr 1
            obtain ⟨q, hq⟩ : ∃ q, 3 - zs.length = q + 1 := ⟨2 - zs.length, by omega⟩
            rw [hq, List.length_append, show 3 - (zs.length + [(0 : Int)].length) = q by simp; omega]
            rfl
          exact h2 _ (by rw [HTL.out]; omega) h1
        case measure => simp [intOf]; omega
      · have hd : decide ((k : Int) > 0) = true := decide_eq_true (by omega)
        have HCA := Lib.hid (HF.out.call Bj cj L wr HIJ.out (by have := HK.out; omega) (by have := HK.out; omega))
        have heg := HF.out.enters
        rw [HK.out] at HCA
        go_wp2_with fail
        refine HCA.out.mono ?_
        rintro e w1 ⟨rfl, rfl⟩
        go_wp2_with fail
        go_roundw
        case rel =>
          refine ⟨j + 1, by omega, by go_num, Lib.hid ?_, Lib.hid (hb.out.far (by omega) _), Lib.hid (gr_ownF hgr.out (gr_set wr (w.heap.size + 1 + 1) j _) (fun q e => by cases e; omega))⟩
          rw [HST.out]
          exact HS.out
        case measure => simp [intOf]; omega
    · have hjn : j = n := by omega
      have hta : (LL.map f).take j = LL.map f := List.take_of_length_le (by have := HN.out; simp; omega)
      have HTA := Lib.hid hta
      obtain ⟨x, y, z, he, ha2⟩ := ha.out
      have HE := Lib.hid he
      have q0 := ha2.c0
      have q1 := ha2.c1
      have q2 := ha2.c2
      have r0 := hb.out.c0
      have r1 := hb.out.c1
      have r2 := hb.out.c2
      have s0 := hb.out.f
      clear hjn hta he
      go_wp2_with fail
      have T1 := ((hb.out.set0 x).set1 y).set2 z
      have t0 := T1.c0
      have t1 := T1.c1
      have t2 := T1.c2
      refine bodyPost_ret (v := .agg #[.int .i64 x, .int .i64 y, .int .i64 z]) (by simp [results, Try.results22, go_sem, t0, t1, t2]) rfl ?_
      refine ⟨x, y, z, ?_, rfl, gr_ownF hgr.out ((gr_set wr (w.heap.size + 1) 0 _).trans ((gr_set _ (w.heap.size + 1) 1 _).trans (gr_set _ (w.heap.size + 1) 2 _))) (fun q e => by cases e; omega)⟩
      rw [← HTA.out]
      exact HE.out

theorem chooses_max : Chooses 23 maxI where
  enters := enters_of Try.func23 (by kernel_rfl) rfl
  call := fun A c L w h h0 hn => slmax_any A c L w h h0 hn
  none := rfl
theorem chooses_min : Chooses 24 minI where
  enters := enters_of Try.func24 (by kernel_rfl) rfl
  call := fun A c L w h h0 hn => slmin_any A c L w h h0 hn
  none := rfl

/-- How longest and shortest end. -/
def LgP (f : List Int → Int) (LL : List (List Int)) (w : World) (e : Ending) (w' : World) : Prop :=
  ∃ x y z, pad3 (LL.map f) = [x, y, z] ∧ e = .returned (.agg #[.int .i64 x, .int .i64 y, .int .i64 z]) ∧ w.grownBy w' none

set_option maxRecDepth 100000 in
set_option maxHeartbeats 1000000 in
theorem longest_any (v : Value) (LL : List (List Int)) (D : List Int) (w : World) (h : Lyt w v LL D) (hl : LL.length ≤ 3) (hsz : ∀ M ∈ LL, M.length ≤ 1099511627776) :
    Calls Try.prog 14 #[v] w (LgP maxI LL w) := by
  have HC := Lib.hid (fun u (hg : w.grownBy u none) => shapeby_any _ maxI chooses_max v LL D u (h.grown hg) hl hsz)
  obtain ⟨A, c, B, d, rfl, _⟩ := h
  generalize LL.length = n at HC ⊢
  generalize D.length = m at HC ⊢
  clear hl hsz
  have hg0 := (World.grownBy_alloc w (.cells #[.slice A n c, .slice B m d] 30) none).trans (World.grownBy_alloc _ (.cells #[.int .i64 0, .int .i64 0, .int .i64 0] TSh) none)
  have HG0 := Lib.hid hg0
  have HP := Lib.hid ((Pr.new w 30 (.slice A n c) (.slice B m d)).alloc (.cells #[.int .i64 0, .int .i64 0, .int .i64 0] TSh))
  have HA := Lib.hid (A3.new (w.alloc (.cells #[.slice A n c, .slice B m d] 30)))
  have p0 := HP.out.c0
  have p1 := HP.out.c1
  clear hg0
  go_enter Try.func14, Try.ntmps14
  go_wp2_with fail
  refine (HC.out _ HG0.out).mono ?_
  rintro e w1 ⟨x, y, z, he, rfl, hg1⟩
  have HE := Lib.hid he
  have HG1 := Lib.hid (HG0.out.trans hg1)
  have HA1 := Lib.hid (HA.out.grown hg1 (by simp))
  have q0 := HA1.out.c0
  have q1 := HA1.out.c1
  have q2 := HA1.out.c2
  have q3 := HA1.out.f
  simp at q0 q1 q2 q3
  clear p0 p1 he hg1
  go_wp2_with fail
  have T1 := ((HA1.out.set0 x).set1 y).set2 z
  simp at T1
  have t0 := T1.c0
  have t1 := T1.c1
  have t2 := T1.c2
  refine bodyPost_ret (v := .agg #[.int .i64 x, .int .i64 y, .int .i64 z]) (by simp [results, Try.results14, go_sem, t0, t1, t2]) rfl ?_
  exact ⟨x, y, z, HE.out, rfl, gr_ownF HG1.out ((gr_set w1 (w.heap.size + 1) 0 _).trans ((gr_set _ (w.heap.size + 1) 1 _).trans (gr_set _ (w.heap.size + 1) 2 _))) (fun q e => by cases e; omega)⟩

set_option maxRecDepth 100000 in
set_option maxHeartbeats 1000000 in
theorem shortest_any (v : Value) (LL : List (List Int)) (D : List Int) (w : World) (h : Lyt w v LL D) (hl : LL.length ≤ 3) (hsz : ∀ M ∈ LL, M.length ≤ 1099511627776) :
    Calls Try.prog 15 #[v] w (LgP minI LL w) := by
  have HC := Lib.hid (fun u (hg : w.grownBy u none) => shapeby_any _ minI chooses_min v LL D u (h.grown hg) hl hsz)
  obtain ⟨A, c, B, d, rfl, _⟩ := h
  generalize LL.length = n at HC ⊢
  generalize D.length = m at HC ⊢
  clear hl hsz
  have hg0 := (World.grownBy_alloc w (.cells #[.slice A n c, .slice B m d] 30) none).trans (World.grownBy_alloc _ (.cells #[.int .i64 0, .int .i64 0, .int .i64 0] TSh) none)
  have HG0 := Lib.hid hg0
  have HP := Lib.hid ((Pr.new w 30 (.slice A n c) (.slice B m d)).alloc (.cells #[.int .i64 0, .int .i64 0, .int .i64 0] TSh))
  have HA := Lib.hid (A3.new (w.alloc (.cells #[.slice A n c, .slice B m d] 30)))
  have p0 := HP.out.c0
  have p1 := HP.out.c1
  clear hg0
  go_enter Try.func15, Try.ntmps15
  go_wp2_with fail
  refine (HC.out _ HG0.out).mono ?_
  rintro e w1 ⟨x, y, z, he, rfl, hg1⟩
  have HE := Lib.hid he
  have HG1 := Lib.hid (HG0.out.trans hg1)
  have HA1 := Lib.hid (HA.out.grown hg1 (by simp))
  have q0 := HA1.out.c0
  have q1 := HA1.out.c1
  have q2 := HA1.out.c2
  have q3 := HA1.out.f
  simp at q0 q1 q2 q3
  clear p0 p1 he hg1
  go_wp2_with fail
  have T1 := ((HA1.out.set0 x).set1 y).set2 z
  simp at T1
  have t0 := T1.c0
  have t1 := T1.c1
  have t2 := T1.c2
  refine bodyPost_ret (v := .agg #[.int .i64 x, .int .i64 y, .int .i64 z]) (by simp [results, Try.results15, go_sem, t0, t1, t2]) rfl ?_
  exact ⟨x, y, z, HE.out, rfl, gr_ownF HG1.out ((gr_set w1 (w.heap.size + 1) 0 _).trans ((gr_set _ (w.heap.size + 1) 1 _).trans (gr_set _ (w.heap.size + 1) 2 _))) (fun q e => by cases e; omega)⟩

/-- The levels of an array, none if it is none. -/
def shLL (s : ByteArray) (n : Int) : List (List Int) := if isArr s n = true then (match readN s n.toNat with | some t => lv n.toNat [t] | none => []) else []
def shB (s : ByteArray) (n : Int) : Bool := isArr s n && evenLL (shLL s n)
def shZ (s : ByteArray) (n : Int) : List Int := if shB s n = true then (shLL s n).map hdI else []
theorem shLL_len (s : ByteArray) (n : Int) : (shLL s n).length ≤ 3 := by
  unfold shLL
  split
  · rename_i h
    unfold isArr at h
    simp only [Bool.and_eq_true, decide_eq_true_eq] at h
    cases readN s n.toNat with
    | none => simp
    | some t => simp only [lv_len]; omega
  · simp
theorem shLL_sz (s : ByteArray) (n : Int) : ∀ M ∈ shLL s n, M.length ≤ 400 := by
  unfold shLL
  split
  · rename_i h
    unfold isArr at h
    simp only [Bool.and_eq_true, decide_eq_true_eq] at h
    cases hr : readN s n.toNat with
    | none => intro M hM; simp at hM
    | some t =>
      intro M hM
      refine Nat.le_trans (lv_txs _ _ M hM) ?_
      simp only [txs, Nat.add_zero]
      rw [← readN_text hr, Array.length_toList]
      have : s.data.size = s.size := rfl
      omega
  · intro M hM; cases hM
/-- LayOut of the program, as ShapeOf wants it. -/
theorem layout_sh (s : ByteArray) (n : Int) (w : World) : Calls Try.prog 13 #[.string s, .int .i64 n] w fun e w' => ∃ u D, e = .returned (.tuple #[u, .bool (isArr s n)]) ∧ w.grownBy w' none ∧ Lyt w' u (shLL s n) D ∧ (isArr s n = true → 0 ≤ n ∧ n.toNat = (shLL s n).length) := by
  refine (layout_impl s n w).mono ?_
  rintro e w' (⟨hb, rfl, hg⟩ | ⟨hb, t, u, ht, rfl, hg, ho⟩)
  · refine ⟨_, [], by rw [hb], hg, ?_, fun h => by rw [hb] at h; cases h⟩
    have e : shLL s n = [] := by unfold shLL; rw [hb]; rfl
    rw [e]
    exact (OwnLyt.zero w' w.heap.size).lyt
  · have e : shLL s n = lv n.toNat [t] := by unfold shLL; rw [if_pos hb, ht]
    refine ⟨u, _, by rw [hb], hg, by rw [e]; exact ho.lyt, fun _ => ?_⟩
    rw [e, lv_len]
    unfold isArr at hb
    simp only [Bool.and_eq_true, decide_eq_true_eq] at hb
    exact ⟨hb.1.1, rfl⟩

theorem sh_eq {LL : List (List Int)} {x y z x2 y2 z2 : Int} (h : pad3 (LL.map maxI) = [x, y, z]) (h2 : pad3 (LL.map minI) = [x2, y2, z2]) : (x == x2 && (y == y2 && z == z2)) = evenLL LL := by
  have h3 := @max_even_all LL
  have h4 : LL.map maxI = LL.map minI ↔ [x, y, z] = [x2, y2, z2] := by
    rw [← h, ← h2]
    exact ⟨fun e => by rw [e], fun e => pad3_inj (by simp) e⟩
  rw [Bool.eq_iff_iff, ← h3, h4]
  simp
theorem sh_row {w : World} {g k base : Nat} {LL : List (List Int)} {x y z : Int} (h : A3 w g x y z) (hp : pad3 (LL.map maxI) = [x, y, z]) (hk : LL.length = k) (hk3 : k ≤ 3) (hb : base ≤ g) (he : evenLL LL = true) :
    w.ownsRow base TSh 1 (.slice (some ⟨g, 0, none⟩) (LL.map hdI).length 3) (LL.map hdI).length ((LL.map hdI).map (Value.int .i64)) := by
  rw [max_hd he] at hp
  have hl : (LL.map hdI).length = k := by simpa using hk
  have ht : (LL.map hdI) = [x, y, z].take k := by
    rw [← hp, pad3, List.take_append_of_le_length (by omega), List.take_of_length_le (by omega)]
  refine ⟨by simp, .inr ⟨g, 3, _, rfl, hb, h, by omega, by simp [maxLen], by simp, ?_⟩⟩
  rw [hl]
  have e : ((LL.map hdI).map (Value.int .i64)) = ([x, y, z].map (Value.int .i64)).take k := by rw [ht, List.map_take]
  rw [e]
  simp

theorem sl3_run (g k : Nat) (hk : k ≤ 3) (u : World) : (Instr.sliceAt TSh (.pointer (some ⟨g, 0, none⟩)) none (some (.int .i64 (k : Int))) none).run Try.prog u = .ok (.slice (some ⟨g, 0, none⟩) k 3) u := by
  have hal : Try.prog.arrayLen TSh = 3 := by kernel_rfl
  have hel : Try.prog.elem TSh = 3 := by kernel_rfl
  have hu : Try.prog.underlying TSh = some (.array (Try.prog.arrayLen TSh) (Try.prog.elem TSh)) := by rw [hal, hel]; exact underSh
  have hs : (sizeOf (Try.prog.elem TSh)).run Try.prog u = .ok 1 u := by kernel_rfl
  rw [run_sliceAt_array_h u TSh ⟨g, 0, none⟩ hu .i64 (k : Int) (by omega) (by rw [hal]; omega), hs, hal]
  simp [Result.andThen, slicedAt, Addr.add]

/-- How ShapeOf of the program ends. -/
def ShIP (s : ByteArray) (n : Int) (w : World) (e : Ending) (w' : World) : Prop :=
  ∃ A c, e = .returned (.tuple #[.slice A (shZ s n).length c, .bool (shB s n)]) ∧ w.grownBy w' none ∧ w'.ownsRow w.heap.size TSh 1 (.slice A (shZ s n).length c) (shZ s n).length ((shZ s n).map (Value.int .i64))

set_option maxRecDepth 100000 in
set_option maxHeartbeats 2000000 in
theorem shape_impl (s : ByteArray) (n : Int) (w : World) : Calls Try.prog 6 #[.string s, .int .i64 n] w (ShIP s n w) := by
  have HL := Lib.hid (layout_sh s n w)
  have hl3 := shLL_len s n
  have hsz := shLL_sz s n
  have HLG := Lib.hid (fun v D u h => longest_any v (shLL s n) D u h hl3 (fun M hM => Nat.le_trans (hsz M hM) (by omega)))
  have HSG := Lib.hid (fun v D u h => shortest_any v (shLL s n) D u h hl3 (fun M hM => Nat.le_trans (hsz M hM) (by omega)))
  obtain ⟨b, hb⟩ : ∃ b, isArr s n = b := ⟨_, rfl⟩
  obtain ⟨LL, hLL⟩ : ∃ LL, shLL s n = LL := ⟨_, rfl⟩
  have HB := Lib.hid hb
  have HE := Lib.hid hLL
  have hP : ShIP s n w = ShIP s n w := rfl
  rw [hb, hLL] at HL
  rw [hLL] at HLG HSG hl3
  clear hb hLL hsz
  cases b
  · go_enter Try.func6, Try.ntmps6
    go_wp2_with fail
    refine HL.out.mono ?_
    rintro e w1 ⟨u, D, rfl, hg1, hl1, _⟩
    have HG1 := Lib.hid hg1
    have HY := Lib.hid hl1
    obtain ⟨A, c, B, d, rfl, _⟩ := hl1
    generalize LL.length = k at *
    generalize D.length = m at *
    clear hg1
    have HP := Lib.hid (Pr.new w1 30 (.slice A k c) (.slice B m d))
    have p0 := HP.out.c0
    have p1 := HP.out.c1
    have HC := Lib.hid (HLG.out _ _ _ (HY.out.grown (World.grownBy_alloc w1 (.cells #[.slice A k c, .slice B m d] 30) none)))
    go_wp2_with fail
    refine HC.out.mono ?_
    rintro e w2 ⟨x, y, z, _, rfl, hg2⟩
    have HG2 := Lib.hid (HG1.out.trans ((World.grownBy_alloc w1 (.cells #[.slice A k c, .slice B m d] 30) none).trans hg2))
    clear hg2 p0 p1
    go_wp2_with fail
    have HG3 := Lib.hid ((HG2.out.trans (World.grownBy_alloc w2 (.cells #[.int .i64 x, .int .i64 y, .int .i64 z] TSh) none)).trans (gr_drewN _ 1 none))
    go_region_law skip
    all_goals
      go_wp2_with fail
      go_ret2
      have e1 : shB s n = false := by unfold shB; rw [HB.out]; rfl
      have e2 : shZ s n = [] := by unfold shZ; rw [e1]; rfl
      unfold ShIP
      rw [e2, e1]
      exact ⟨none, 0, rfl, HG3.out, World.ownsRow_nil _ _ _ _⟩
  · go_enter Try.func6, Try.ntmps6
    go_wp2_with fail
    refine HL.out.mono ?_
    rintro e w1 ⟨u, D, rfl, hg1, hl1, hd1⟩
    obtain ⟨h0n, hdn⟩ := hd1 (by simp)
    obtain ⟨k, hk⟩ : ∃ k, LL.length = k := ⟨_, rfl⟩
    rw [hk] at hdn hl3
    obtain rfl : n = (k : Int) := by omega
    have HK := Lib.hid hk
    have HG1 := Lib.hid hg1
    have HY := Lib.hid hl1
    obtain ⟨A, c, B, d, rfl, _⟩ := hl1
    rw [hk] at HY ⊢
    generalize D.length = m at *
    clear hg1 hdn h0n hd1 hk
    have HP := Lib.hid (Pr.new w1 30 (.slice A k c) (.slice B m d))
    have p0 := HP.out.c0
    have p1 := HP.out.c1
    have HC := Lib.hid (HLG.out _ _ _ (HY.out.grown (World.grownBy_alloc w1 (.cells #[.slice A k c, .slice B m d] 30) none)))
    go_wp2_with fail
    refine HC.out.mono ?_
    rintro e w2 ⟨x, y, z, he, rfl, hg2⟩
    have HX := Lib.hid he
    have HG12 := Lib.hid ((World.grownBy_alloc w1 (.cells #[.slice A k c, .slice B m d] 30) none).trans hg2)
    have HP2 := Lib.hid (HP.out.grown hg2 (by simp))
    clear hg2 p0 p1 he
    go_wp2_with fail
    have HG3 := Lib.hid ((HG1.out.trans HG12.out).trans (World.grownBy_alloc w2 (.cells #[.int .i64 x, .int .i64 y, .int .i64 z] TSh) none))
    have HA3 := Lib.hid (show A3 (w2.alloc (.cells #[.int .i64 x, .int .i64 y, .int .i64 z] TSh)) w2.heap.size x y z from heap_alloc_new _ _)
    have HP3 := Lib.hid (HP2.out.alloc (.cells #[.int .i64 x, .int .i64 y, .int .i64 z] TSh))
    have HS3 := Lib.hid (HY.out.grown (HG12.out.trans (World.grownBy_alloc w2 (.cells #[.int .i64 x, .int .i64 y, .int .i64 z] TSh) none)))
    generalize w2.alloc (.cells #[.int .i64 x, .int .i64 y, .int .i64 z] TSh) = w3 at HG3 HA3 HP3 HS3 ⊢
    have p0 := HP3.out.c0
    have p1 := HP3.out.c1
    have a0 := HA3.out.c0
    have a1 := HA3.out.c1
    have a2 := HA3.out.c2
    have hqg : Try.prog.eqGuardType Try.prog.depth TSh = false := by kernel_rfl
    have hgd := (HA3.out.lt)
    obtain ⟨ev, hev⟩ : ∃ ev, evenLL LL = ev := ⟨_, rfl⟩
    have HEV := Lib.hid hev
    have HB2 := Lib.hid (show shB s (k : Int) = ev by unfold shB; rw [HB.out, HE.out, HEV.out]; rfl)
    clear hev
    cases ev
    all_goals
      go_region_law (first
        | (go_simp
           go_at_call 15
           refine (HSG.out _ _ _ (HS3.out.grown (gr_drewN w3 1 none))).mono ?_
           rintro e w4 ⟨x2, y2, z2, he2, rfl, hg4⟩
           have HG4 := Lib.hid (HG3.out.trans ((gr_drewN w3 1 none).trans hg4))
           have HA4 := Lib.hid (HA3.out.grown ((gr_drewN w3 1 none).trans hg4) (by simp))
           have a0 := HA4.out.c0
           have a1 := HA4.out.c1
           have a2 := HA4.out.c2
           have hq := fun u => eq3 x y z x2 y2 z2 u
           rw [sh_eq HX.out he2, HEV.out] at hq
           clear hg4 he2))
    all_goals first
      | (have e2 : shZ s (k : Int) = [] := by unfold shZ; rw [HB2.out]; rfl
         go_wp2_with fail
         go_ret2
         unfold ShIP
         rw [e2, HB2.out]
         exact ⟨none, 0, rfl, HG4.out, World.ownsRow_nil _ _ _ _⟩)
      | (have e2 : shZ s (k : Int) = LL.map hdI := by unfold shZ; rw [HB2.out, HE.out]; rfl
         have hr := sh_row (base := w.heap.size) HA4.out HX.out HK.out hl3 (Nat.le_trans HG1.out.size (Nat.le_trans HG12.out.size (Nat.le_refl _))) HEV.out
         have hll : (LL.map hdI).length = k := by have := HK.out; simpa using this
         have HRW := Lib.hid hr
         have HLL := Lib.hid hll
         clear hr hll
         have hsl := sl3_run w2.heap.size k hl3
         go_wp2_with fail
         go_ret2
         unfold ShIP
         rw [e2, HB2.out]
         refine ⟨some ⟨w2.heap.size, 0, none⟩, 3, ?_, HG4.out, HRW.out⟩
         rw [HLL.out]
         rfl)

end Go.Proofs.Ytachjodnhgmoiaa
