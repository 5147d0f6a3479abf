/- What the model's reader of terms does on signs: next, is, part where something is wrong. -/
import Derived.Test.YtboddoaekcchpaaGreatTRead
import Derived.Test.YtboddoaekcchpaaGreatTmM
namespace Go.Proofs.YtboddoaekcchpaaGreat
open Go.RowKit

/-- The model's reader at block g: its text, its place, and whether something was wrong. -/
def SR (w : World) (g : Nat) (s : ByteArray) (p : Nat) (b : Bool) : Prop := w.heap[g]? = some (.cells #[.string s, .int .i64 p, .bool b] 105 (0, 0))

section
variable {w w' : World} {g p : Nat} {s : ByteArray} {b : Bool}
theorem SR.c0 (h : SR w g s p b) : w.cell? ⟨g, 0, none⟩ = some (.string s) := cell_of_row w g 0 _ _ (0, 0) h
theorem SR.c1 (h : SR w g s p b) : w.cell? ⟨g, 1, none⟩ = some (.int .i64 p) := cell_of_row w g 1 _ _ (0, 0) h
theorem SR.c2 (h : SR w g s p b) : w.cell? ⟨g, 2, none⟩ = some (.bool b) := cell_of_row w g 2 _ _ (0, 0) h
theorem SR.f (h : SR w g s p b) (i : Nat) : w.frozen? ⟨g, i, none⟩ = false := by unfold SR at h; simp [World.frozen?, h]
theorem SR.lt (h : SR w g s p b) : g < w.heap.size := blk_lt h
theorem SR.drewN (h : SR w g s p b) (n : Nat) : SR (w.drewN n) g s p b := h
theorem SR.set1 (h : SR w g s p b) (q : Nat) : SR (w.setCell ⟨g, 1, none⟩ (.int .i64 q)) g s q b := by unfold SR at h ⊢; simp [World.setCell, Array.getElem?_modify, h]
theorem SR.set2 (h : SR w g s p b) (c : Bool) : SR (w.setCell ⟨g, 2, none⟩ (.bool c)) g s p c := by unfold SR at h ⊢; simp [World.setCell, Array.getElem?_modify, h]
theorem SR.alloc (h : SR w g s p b) (o : Obj) : SR (w.alloc o) g s p b := (Below.heap_alloc w o g h.lt).trans h
theorem SR.grown {row : Option Nat} (h : SR w g s p b) (hg : w.grownBy w' row) (hne : some g ≠ row) : SR w' g s p b := (hg.block g h.lt hne).trans h
theorem SR.far (h : SR w g s p b) {k i : Nat} (hk : g ≠ k) (u : Value) : SR (w.setCell ⟨k, i, none⟩ u) g s p b := (Below.heap_setCell _ _ _ _ hk).trans h
end

/-- How next ends: a byte was read; or none is left. -/
def SNextPost (s : ByteArray) (p g : Nat) (b : Bool) (w : World) (e : Ending) (w' : World) : Prop :=
  w.grownBy w' (some g) ∧ ∃ c : Int, e = .returned (.int .u8 c) ∧ 0 ≤ c ∧ c ≤ 255 ∧ ((p < s.size ∧ c = ba s p ∧ SR w' g s (p + 1) b) ∨ (s.size ≤ p ∧ ba s p = -1 ∧ c = 0 ∧ SR w' g s p true))

set_option maxHeartbeats 400000 in
theorem snext_in (g p : Nat) (s : ByteArray) (b : Bool) (w : World) (h : SR w g s p b) (hp : p < s.size) (hs : s.size ≤ 1048576) :
    Calls Tryz.prog 71 #[.pointer (some ⟨g, 0, none⟩)] w (SNextPost s p g b w) := by
  have h0 := h.c0
  have h1 := h.c1
  have hf := h.f 1
  have hd : decide (s.size ≤ p) = false := by simp; omega
  have HR := Lib.hid h
  have HB := Lib.hid (ba_in hp)
  have HHI := Lib.hid (ba_hi s p)
  go_enter Tryz.func71, Tryz.ntmps71
  go_wp2_with fail
  go_quiet (fail)
  have HR2 : Hid (SR ((w.drewN nq).setCell ⟨g, 1, none⟩ (.int .i64 ((p : Int) + 1))) g s (p + 1) b) := Lib.hid (by have := (HR.out.drewN nq).set1 (p + 1); simpa using this)
  have g0 := HR2.out.c0
  have g1 : ((w.drewN nq).setCell ⟨g, 1, none⟩ (.int .i64 ((p : Int) + 1))).cell? ⟨g, 1, none⟩ = some (.int .i64 ((p : Int) + 1)) := by have := HR2.out.c1; simpa using this
  have w1 : IntKind.i64.wrap ((p : Int) + 1) = (p : Int) + 1 := IntWalk.i64_in _ (by omega)
  have w2 : IntKind.i64.wrap ((p : Int) + 1 - 1) = (p : Int) := (IntWalk.i64_in _ (by omega)).trans (by omega)
  go_wp2_with fail
  go_quiet (fail)
  go_wp2_with fail
  go_ret
  exact ⟨((gr_drewN w _ _).trans (gr_set _ _ _ _)).trans (gr_drewN _ _ _), ba s p, by rw [HB.out]; rfl, by rw [HB.out]; omega, HHI.out, .inl ⟨hp, rfl, HR2.out.drewN _⟩⟩

set_option maxHeartbeats 400000 in
theorem snext_out (g p : Nat) (s : ByteArray) (b : Bool) (w : World) (h : SR w g s p b) (hp : s.size ≤ p) :
    Calls Tryz.prog 71 #[.pointer (some ⟨g, 0, none⟩)] w (SNextPost s p g b w) := by
  have h0 := h.c0
  have h1 := h.c1
  have h2 := h.c2
  have hf := h.f 2
  have hd : decide (s.size ≤ p) = true := by simp; omega
  have HR := Lib.hid h
  go_enter Tryz.func71, Tryz.ntmps71
  go_wp2_with fail
  go_quiet (fail)
  go_wp2_with fail
  go_ret
  exact ⟨(gr_drewN w _ _).trans (gr_set _ _ _ _), 0, rfl, by omega, by omega, .inr ⟨hp, ba_out hp, rfl, (HR.out.drewN _).set2 true⟩⟩

theorem snext_any (g p : Nat) (s : ByteArray) (b : Bool) (w : World) (h : SR w g s p b) (hs : s.size ≤ 1048576) :
    Calls Tryz.prog 71 #[.pointer (some ⟨g, 0, none⟩)] w (SNextPost s p g b w) := by
  rcases Nat.lt_or_ge p s.size with hp | hp
  · exact snext_in g p s b w h hp hs
  · exact snext_out g p s b w h hp

/-- How is ends: what is asked for was read; or something is wrong. -/
def SIsPost (s : ByteArray) (p g : Nat) (c : Int) (b : Bool) (w : World) (e : Ending) (w' : World) : Prop :=
  e = .returned (.tuple #[]) ∧ w.grownBy w' (some g) ∧ ((b = false ∧ ba s p = c ∧ SR w' g s (p + 1) false) ∨ (¬ (b = false ∧ ba s p = c) ∧ ∃ q, q ≤ s.size ∧ SR w' g s q true))

set_option maxHeartbeats 400000 in
theorem sis_any (g p : Nat) (s : ByteArray) (c : Int) (b : Bool) (w : World) (h : SR w g s p b) (h0 : 0 ≤ c) (hp : p ≤ s.size) (hs : s.size ≤ 1048576) :
    Calls Tryz.prog 75 #[.pointer (some ⟨g, 0, none⟩), .int .u8 c] w (SIsPost s p g c b w) := by
  have H := Lib.hid (snext_any g p s b w h hs)
  clear h
  go_enter Tryz.func75, Tryz.ntmps75
  go_wp2_with fail
  refine H.out.mono ?_
  rintro e w1 ⟨hg1, d, rfl, hd0, hd1, hcase⟩
  have HG1 := Lib.hid hg1
  rcases hcase with ⟨hlt, hd, hr1⟩ | ⟨hge, hd, rfl, hr1⟩
  · have f2 := hr1.f 2
    have c2 := hr1.c2
    have HR1 := Lib.hid hr1
    by_cases hc : ba s p = c
    · have HC := Lib.hid hc
      have hb : (d != c) = false := by rw [hd, hc]; simp
      have hb2 : (d == c) = true := by rw [hd, hc]; simp
      clear hg1 hr1 hd hc
      cases b
      all_goals
        go_wp2_with fail
        go_end0
        first
          | exact ⟨rfl, HG1.out.trans (gr_set _ _ _ _), .inl ⟨rfl, HC.out, HR1.out.set2 false⟩⟩
          | exact ⟨rfl, HG1.out.trans (gr_set _ _ _ _), .inr ⟨(fun h => by cases h.1), _, hlt, HR1.out.set2 true⟩⟩
    · have HC := Lib.hid hc
      have hb : (d != c) = true := by rw [hd]; simpa using hc
      have hb2 : (d == c) = false := by rw [hd]; simpa using hc
      clear hg1 hr1 hd hc
      go_wp2_with fail
      go_end0
      exact ⟨rfl, HG1.out.trans (gr_set _ _ _ _), .inr ⟨fun h => HC.out h.2, _, hlt, HR1.out.set2 true⟩⟩
  · have f2 := hr1.f 2
    have c2 := hr1.c2
    have HR1 := Lib.hid hr1
    have HD := Lib.hid (show ba s p ≠ c by omega)
    clear hg1 hr1 hd
    by_cases hc : (0 : Int) = c
    · subst hc
      go_wp2_with fail
      go_end0
      exact ⟨rfl, HG1.out.trans (gr_set _ _ _ _), .inr ⟨fun h => HD.out h.2, _, hp, HR1.out.set2 true⟩⟩
    · have hb : ((0 : Int) != c) = true := by simpa using hc
      have hb2 : ((0 : Int) == c) = false := by simpa using hc
      clear hc
      go_wp2_with fail
      go_end0
      exact ⟨rfl, HG1.out.trans (gr_set _ _ _ _), .inr ⟨fun h => HD.out h.2, _, hp, HR1.out.set2 true⟩⟩

/-- How node ends. -/
def SPost (s : ByteArray) (f p g : Nat) (w : World) (e : Ending) (w' : World) : Prop :=
  w.grownBy w' (some g) ∧ ∃ a b A k c, e = .returned (.agg #[.int .u8 a, .int .u8 b, .slice A k c]) ∧
    ((∃ t q, tm s f p = some (t, q) ∧ SR w' g s q false ∧ SN w' (fun b => w.heap.size ≤ b) t (a, b, .slice A k c)) ∨ (tm s f p = none ∧ ∃ q, q ≤ s.size ∧ SR w' g s q true))

theorem SN.far {w : World} {S : Nat → Prop} {t : Tm} {x : Int × Int × Value} (h : SN w S t x) {b i : Nat} (hb : ¬ S b) (u : Value) : SN (w.setCell ⟨b, i, none⟩ u) S t x :=
  h.keep (fun k hk _ => Below.heap_setCell _ _ _ _ (by show k ≠ b; rintro rfl; exact hb hk)) (fun _ hk _ => hk) t x
theorem SN.more {w w' : World} {S : Nat → Prop} {t : Tm} {x : Int × Int × Value} (h : SN w S t x) {g : Nat} (hg : w.grownBy w' (some g)) (hS : ¬ S g) : SN w' S t x :=
  h.keep (fun k hk hl => hg.block k hl (by simp; rintro rfl; exact hS hk)) (fun _ hk _ => hk) t x
theorem SN.wide {w : World} {S S' : Nat → Prop} {t : Tm} {x : Int × Int × Value} (h : SN w S t x) (hs : ∀ b, S b → S' b) : SN w S' t x :=
  h.keep (fun _ _ _ => rfl) (fun b hb _ => hs b hb) t x

/-- What part does where something is wrong: nothing. -/
theorem spart_bad (g p : Nat) (s : ByteArray) (w : World) (h : SR w g s p true) :
    Calls Tryz.prog 74 #[.pointer (some ⟨g, 0, none⟩)] w fun e w' => e = .returned (.agg #[.int .u8 0, .int .u8 0, .slice none 0 0]) ∧ SR w' g s p true ∧ w.grownBy w' (some g) := by
  have HR := Lib.hid h
  have hgw := h.lt
  have c2 := (h.alloc (.cells #[.int .u8 0, .int .u8 0, .slice none 0 0] 57)).c2
  have HN := Lib.hid (c3_new w (.int .u8 0) (.int .u8 0) (.slice none 0 0) 57)
  have f0 := HN.out.f 0
  have f1 := HN.out.f 1
  have f2 := HN.out.f 2
  have n0 := HN.out.c0
  have n1 := HN.out.c1
  have n2 := HN.out.c2
  clear h
  go_enter Tryz.func74, Tryz.ntmps74
  go_wp2_with fail
  refine bodyPost_ret (v := .agg #[.int .u8 0, .int .u8 0, .slice none 0 0]) (by simp [results, Tryz.results74, go_sem, n0, n1, n2]) rfl ?_
  exact ⟨rfl, HR.out.alloc _, World.grownBy_alloc _ _ _⟩

theorem SPost.of_later {s : ByteArray} {f p g : Nat} {w w0 w' : World} {e : Ending} (h : SPost s f p g w0 e w') (hg : w.grownBy w0 (some g)) : SPost s f p g w e w' := by
  obtain ⟨h1, a, b, A, k, c, he, h2⟩ := h
  refine ⟨hg.trans h1, a, b, A, k, c, he, ?_⟩
  rcases h2 with ⟨t, q, ht, hr, hn⟩ | h2
  · exact .inl ⟨t, q, ht, hr, hn.wide (fun b hb => Nat.le_trans hg.size hb)⟩
  · exact .inr h2

/-- A result is laid into the call's own block: the world that is left. -/
def laid3 (w : World) (b : Nat) (x y z : Value) : World := ((w.setCell ⟨b, 0, none⟩ x).setCell ⟨b, 1, none⟩ y).setCell ⟨b, 2, none⟩ z
theorem laid3_heap (w : World) (b : Nat) (x y z : Value) (k : Nat) (hk : k ≠ b) : (laid3 w b x y z).heap[k]? = w.heap[k]? := by
  unfold laid3
  rw [Below.heap_setCell _ _ _ _ (by show k ≠ b; exact hk), Below.heap_setCell _ _ _ _ (by show k ≠ b; exact hk), Below.heap_setCell _ _ _ _ (by show k ≠ b; exact hk)]
theorem gr_laid3 {w w1 : World} {g b : Nat} (h : w.grownBy w1 (some g)) (hb : w.heap.size ≤ b) (x y z : Value) : w.grownBy (laid3 w1 b x y z) (some g) := gr_own (gr_own (gr_own h hb x) hb y) hb z
theorem SR.laid {w : World} {g p : Nat} {s : ByteArray} {b : Bool} (h : SR w g s p b) {k : Nat} (hk : g ≠ k) (x y z : Value) : SR (laid3 w k x y z) g s p b := (laid3_heap w k x y z g hk).trans h
theorem SN.laid {w : World} {S : Nat → Prop} {t : Tm} {x : Int × Int × Value} (h : SN w S t x) {b : Nat} (hb : ¬ S b) (u v z : Value) : SN (laid3 w b u v z) S t x := ((h.far hb u).far hb v).far hb z
theorem C3.laid {w : World} {b : Nat} {x y z x' y' z' : Value} {ty : TypeId} (h : C3 w b x y z ty) : C3 (laid3 w b x' y' z') b x' y' z' ty := ((h.set0 x').set1 y').set2 z'

/-- What part does where nothing is wrong so far: what node does. -/
theorem spart_good (g f p : Nat) (s : ByteArray) (w : World) (h : SR w g s p false)
    (ih : ∀ (w : World), SR w g s p false → Calls Tryz.prog 51 #[.pointer (some ⟨g, 0, none⟩)] w (SPost s f p g w)) :
    Calls Tryz.prog 74 #[.pointer (some ⟨g, 0, none⟩)] w (SPost s f p g w) := by
  have HI := Lib.hid ih
  have HR := Lib.hid h
  have hgw := h.lt
  have c2 := (h.alloc (.cells #[.int .u8 0, .int .u8 0, .slice none 0 0] 57)).c2
  have HR0 := Lib.hid (h.alloc (.cells #[.int .u8 0, .int .u8 0, .slice none 0 0] 57))
  have HN := Lib.hid (c3_new w (.int .u8 0) (.int .u8 0) (.slice none 0 0) 57)
  have HG0 := Lib.hid (World.grownBy_alloc w (.cells #[.int .u8 0, .int .u8 0, .slice none 0 0] 57) (some g))
  have HZ0 := Lib.hid (show (w.alloc (.cells #[.int .u8 0, .int .u8 0, .slice none 0 0] 57)).heap.size = w.heap.size + 1 by simp)
  clear h ih
  go_enter Tryz.func74, Tryz.ntmps74
  go_wp2_with fail
  refine (HI.out _ HR0.out).mono ?_
  clear c2
  generalize w.alloc (.cells #[.int .u8 0, .int .u8 0, .slice none 0 0] 57) = w0 at HR0 HN HG0 HZ0 ⊢
  rintro e w1 ⟨hg1, a, b, A, k, c, rfl, hcase⟩
  have HN1 := Lib.hid (HN.out.grown hg1 (by simp; omega))
  have n0 := HN1.out.c0
  have n1 := HN1.out.c1
  have n2 := HN1.out.c2
  have f0 := HN1.out.f 0
  have f1 := HN1.out.f 1
  have f2 := HN1.out.f 2
  have HG1 := Lib.hid (HG0.out.trans hg1)
  have HCASE := Lib.hid hcase
  clear hg1 hcase
  go_wp2_with fail
  have HL := Lib.hid (HN1.out.laid (x' := .int .u8 a) (y' := .int .u8 b) (z' := .slice A k c))
  clear n0 n1 n2 f0 f1 f2
  have n0 := HL.out.c0
  have n1 := HL.out.c1
  have n2 := HL.out.c2
  unfold laid3 at n0 n1 n2
  refine bodyPost_ret (v := .agg #[.int .u8 a, .int .u8 b, .slice A k c]) (by simp [results, Tryz.results74, go_sem, n0, n1, n2]) rfl ?_
  refine ⟨gr_laid3 HG1.out (Nat.le_refl _) _ _ _, a, b, A, k, c, rfl, ?_⟩
  rcases HCASE.out with ⟨t, q, ht, hr, hn⟩ | ⟨ht, q, hq, hr⟩
  · exact .inl ⟨t, q, ht, hr.laid (by omega) _ _ _, (hn.laid (by have := HZ0.out; show ¬ (w0.heap.size ≤ w.heap.size); omega) _ _ _).wide (fun b hb => by have := HZ0.out; omega)⟩
  · exact .inr ⟨ht, q, hq, hr.laid (by omega) _ _ _⟩

end Go.Proofs.YtboddoaekcchpaaGreat
