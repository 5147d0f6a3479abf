/- What the law's functions on lists of strings do: eqStringS, markStringS, heldStringS, markText. -/
import Derived.Test.YtjcbhjldanakeaaSPts
import Derived.Laws.OwnMore
namespace Go.Proofs.Ytjcbhjldanakeaa
open Go.RowKit

/-- The text of a mark. -/
def mtx (n : Nat) : ByteArray := bytesOf (109 :: dec n)

theorem dec_tail {n : Nat} (h : 9 < n) : dec n = dec (n / 10) ++ [byt (48 + (n : Int) % 10)] := by
  rw [dec_high h]
  congr 2
theorem dec_one {n : Nat} (h : n ≤ 9) : dec n = [byt (48 + (n : Int) % 10)] := by
  rw [dec_low h]
  congr 1
  unfold byt
  congr 1
  omega

set_option maxRecDepth 100000 in
set_option maxHeartbeats 1000000 in
theorem marktext_any (n : Nat) (w : World) (h1 : 1 ≤ n) (hn : n ≤ 1000000) :
    Calls Try.prog 48 #[.int .i64 (n : Int)] w fun e w' => e = .returned (.string (mtx n)) ∧ w.grownBy w' none := by
  go_enter Try.func48, Try.ntmps48
  go_wp2_with fail
  go_loopw [0, 3] (fun u v wr => ∃ (m : Nat) (t : ByteArray), t.size + m ≤ n ∧ u = .int .i64 m ∧ v = .string t ∧ Hid ((m = 0 ∧ t = bytesOf (dec n)) ∨ (0 < m ∧ bytesOf (dec n) = bytesOf (dec m) ++ t)) ∧ Hid (w.grownBy wr none)) (fun u _ _ => (intOf u).toNat)
  case atStart => exact ⟨n, ⟨#[]⟩, by simp [ByteArray.size], rfl, rfl, Lib.hid (.inr ⟨h1, by apply ByteArray.ext; simp⟩), Lib.hid (gr_refl _ _)⟩
  case round =>
    obtain ⟨m, t, hm, rfl, rfl, ht, hgr⟩ := hrel
    by_cases h0 : 0 < m
    · have hcv := conv_byte wr (48 + (m : Int) % 10) wr.heap.size rfl
      obtain ⟨z, hz⟩ : ∃ z, one (48 + (m : Int) % 10) ++ t = z := ⟨_, rfl⟩
      have hadd := fun u => str_add t (one (48 + (m : Int) % 10)) z hz (by rw [one_size]; omega) u
      have hzs : z.size = 1 + t.size := by rw [← hz, ByteArray.size_append, one_size]
      have HZS := Lib.hid hzs
      have HT : Hid ((m / 10 = 0 ∧ z = bytesOf (dec n)) ∨ (0 < m / 10 ∧ bytesOf (dec n) = bytesOf (dec (m / 10)) ++ z)) := Lib.hid (by
        rcases ht.out with ⟨h, _⟩ | ⟨_, h⟩
        · omega
        · by_cases h9 : 9 < m
          · refine .inr ⟨by omega, ?_⟩
            rw [h, dec_tail h9, bytesOf_app, bytesOf_one, ← hz, ByteArray.append_assoc]
          · refine .inl ⟨by omega, ?_⟩
            rw [h, dec_one (by omega), bytesOf_one, hz])
      clear hz hzs ht
      go_wp2_with fail
      go_roundw
      case rel => exact ⟨m / 10, z, by rw [HZS.out]; omega, by simp, rfl, HT, Lib.hid (hgr.out.trans (World.grownBy_alloc _ _ _))⟩
      case measure => simp [intOf]; omega
    · obtain rfl : m = 0 := by omega
      have he : Hid (t = bytesOf (dec n)) := Lib.hid (by
        rcases ht.out with ⟨_, h⟩ | ⟨h, _⟩
        · exact h
        · omega)
      obtain ⟨z, hz⟩ : ∃ z : ByteArray, { data := #[109] } ++ t = z := ⟨_, rfl⟩
      have hadd := fun u => str_add t { data := #[109] } z hz (by have : ({ data := #[109] } : ByteArray).size = 1 := rfl; omega) u
      have HZ := Lib.hid hz
      clear ht hz
      go_wp2_with fail
      go_ret
      refine ⟨?_, hgr.out⟩
      unfold mtx
      rw [show (109 : UInt8) = byt 109 from rfl, bytesOf_cons, ← he.out, show one 109 = ({ data := #[109] } : ByteArray) from rfl, HZ.out]
      rfl

/-- The marks from a number on. -/
def marks (k : Nat) : Nat → List ByteArray
  | 0 => []
  | n + 1 => mtx k :: marks (k + 1) n
theorem marks_len (k n : Nat) : (marks k n).length = n := by
  induction n generalizing k with
  | zero => rfl
  | succ n ih => simp [marks, ih]
theorem marks_at (k n j : Nat) (hj : j < n) : (marks k n)[j]? = some (mtx (k + j)) := by
  induction n generalizing k j with
  | zero => omega
  | succ n ih =>
    cases j with
    | zero => rfl
    | succ j => simp only [marks, List.getElem?_cons_succ]; rw [ih (k + 1) j (by omega)]; congr 2; omega

/-- A list of strings in an owned row. -/
def OwnS (w : World) (B : Nat) (v : Value) (ss : List ByteArray) : Prop := w.ownsRow B 9 1 v ss.length (strV ss)
theorem OwnS.keep {w w' : World} {B : Nat} {v : Value} {ss : List ByteArray} (h : OwnS w B v ss) (hg : w.grownBy w' none) : OwnS w' B v ss := own_keep h (fun b hb => hg.block b (h.lt b hb).2 (by simp))
theorem OwnS.form {w : World} {B : Nat} {v : Value} {ss : List ByteArray} (h : OwnS w B v ss) : ∃ A c, v = .slice A ss.length c := by
  rcases h.2 with ⟨hv, hn⟩ | ⟨g, cap, cur, hv, _⟩
  · exact ⟨none, 0, by rw [hv, hn]⟩
  · exact ⟨_, _, hv⟩
theorem OwnS.cells {w : World} {B : Nat} {A : Option Addr} {n c : Nat} {ss : List ByteArray} (h : OwnS w B (.slice A n c) ss) : n ≤ c ∧ ∀ (j : Nat) (x : ByteArray), ss[j]? = some x → ∃ g, A = some ⟨g, 0, none⟩ ∧ g < w.heap.size ∧ w.cell? ⟨g, j, none⟩ = some (.string x) ∧ w.frozen? ⟨g, j, none⟩ = false := by
  obtain ⟨h1, h2, h3⟩ := orow h
  refine ⟨h2, fun j x hj => ?_⟩
  have hl := (List.getElem?_eq_some_iff.1 hj).1
  obtain ⟨g, hA, _, hg, hc⟩ := h3 (by omega)
  subst hA
  exact ⟨g, rfl, hg, hc j (.string x) (by simp [strV, hj]), World.ownsRow.frozenAt (n := ss.length) (by rw [← h1]; rw [h1]; subst h1; exact h) j⟩

set_option maxRecDepth 100000 in
set_option maxHeartbeats 1000000 in
theorem eqstr_any (B C : Nat) (u v : Value) (ss : List ByteArray) (w : World) (hu : OwnS w B u ss) (hv : OwnS w C v ss) (hl : ss.length ≤ 1000000) :
    Calls Try.prog 23 #[u, v] w fun e w' => e = .returned (.bool true) ∧ w.grownBy w' none := by
  obtain ⟨A, c, rfl⟩ := hu.form
  obtain ⟨A2, c2, rfl⟩ := hv.form
  obtain ⟨hc1, hu2⟩ := hu.cells
  obtain ⟨hc2, hv2⟩ := hv.cells
  have HU := Lib.hid hu2
  have HV := Lib.hid hv2
  obtain ⟨n, hn⟩ : ∃ n, ss.length = n := ⟨_, rfl⟩
  rw [hn] at hl hc1 hc2 ⊢
  have HN := Lib.hid hn
  clear hu hv hu2 hv2 hn
  go_enter Try.func23, Try.ntmps23
  go_wp2_with fail
  go_loopw [5] (fun i wr => ∃ j : Nat, j ≤ n ∧ i = .int .i64 j ∧ ∃ q, wr = w.drewN q) (fun i _ => n - (intOf i).toNat)
  case atStart => exact ⟨0, Nat.zero_le _, rfl, 0, rfl⟩
  case round =>
    obtain ⟨j, hj, rfl, q, rfl⟩ := hrel
    by_cases hlt : j < n
    · obtain ⟨x, hx⟩ : ∃ x, ss[j]? = some x := ⟨_, List.getElem?_eq_getElem (by have := HN.out; omega)⟩
      obtain ⟨g, rfl, _, hgc, _⟩ := HU.out j x hx
      obtain ⟨g2, rfl, _, hgc2, _⟩ := HV.out j x hx
      clear hx
      go_wp2_with fail
      go_quiet (fail)
      go_wp2_with fail
      go_roundw
      case rel => exact ⟨j + 1, by omega, by go_num, q + nq, by simp⟩
      case measure => simp [intOf]; omega
    · have hjn : j = n := by omega
      clear hjn
      go_wp2_with fail
      go_ret
      exact ⟨rfl, gr_drewN _ _ _⟩

theorem marks_snoc (k n : Nat) : marks k (n + 1) = marks k n ++ [mtx (k + n)] := by
  induction n generalizing k with
  | zero => rfl
  | succ n ih =>
    rw [marks, ih (k + 1), marks]
    rw [show k + 1 + n = k + (n + 1) from by omega]
    rfl
theorem marks_set {ss : List ByteArray} {k j : Nat} (hj : j < ss.length) : (marks k j ++ ss.drop j).set j (mtx (k + j)) = marks k (j + 1) ++ ss.drop (j + 1) := by
  rw [List.set_append_right _ _ (by rw [marks_len]; exact Nat.le_refl _), marks_len, Nat.sub_self, marks_snoc, List.append_assoc]
  congr 1
  rw [List.drop_eq_getElem_cons hj]
  rfl
theorem strV_set (l : List ByteArray) (j : Nat) (x : ByteArray) : (strV l).set j (.string x) = strV (l.set j x) := by simp [strV, List.map_set]

set_option maxRecDepth 100000 in
set_option maxHeartbeats 1000000 in
theorem markstr_any (B k : Nat) (u : Value) (ss : List ByteArray) (w : World) (hu : OwnS w B u ss) (hk : 1 ≤ k) (hl : k + ss.length ≤ 1000000) :
    Calls Try.prog 24 #[u, .int .i64 (k : Int)] w fun e w' => e = .returned (.int .i64 ((k : Int) + (ss.length : Int))) ∧ OwnS w' B u (marks k ss.length) ∧ w.grownBy w' u.ownBlock := by
  obtain ⟨A, c, rfl⟩ := hu.form
  obtain ⟨hc1, -⟩ := hu.cells
  have HU := Lib.hid hu
  obtain ⟨n, hn⟩ : ∃ n, ss.length = n := ⟨_, rfl⟩
  rw [hn] at hl hc1 HU ⊢
  have HN := Lib.hid hn
  clear hu hn
  go_enter Try.func24, Try.ntmps24
  go_wp2_with fail
  go_loopw [1, 5] (fun q i wr => ∃ j : Nat, j ≤ n ∧ i = .int .i64 j ∧ q = .int .i64 ((k : Int) + (j : Int)) ∧ Hid (wr.ownsRow B 9 1 (.slice A n c) n (strV (marks k j ++ ss.drop j))) ∧ Hid (w.grownBy wr (Value.slice A n c).ownBlock)) (fun _ i _ => n - (intOf i).toNat)
  case atStart => exact ⟨0, Nat.zero_le _, rfl, by simp, Lib.hid (by have := HU.out; unfold OwnS at this; rw [HN.out] at this; exact this), Lib.hid ⟨rfl, rfl, rfl, Nat.le_refl _, fun _ _ _ => rfl⟩⟩
  case round =>
    obtain ⟨j, hj, rfl, rfl, hrow, hgr⟩ := hrel
    by_cases hlt : j < n
    · obtain ⟨g, rfl⟩ : ∃ g, A = some ⟨g, 0, none⟩ := by
        obtain ⟨_, _, h3⟩ := orow hrow.out
        obtain ⟨g, hA, _⟩ := h3 (by omega)
        exact ⟨g, hA⟩
      have HM := Lib.hid (fun w => marktext_any (k + j) w (by omega) (by omega))
      simp only [Int.natCast_add] at HM
      go_wp2_with fail
      refine (HM.out _).mono ?_
      rintro e w2 ⟨rfl, hg2⟩
      have hrow2 := own_keep hrow.out (fun b hb => hg2.block b (hrow.out.lt b hb).2 (by simp))
      have hx : (strV (marks k j ++ ss.drop j))[j]? ≠ none := by
        rw [ne_eq, List.getElem?_eq_none_iff]
        have := hrow.out.1
        omega
      obtain ⟨x, hx⟩ := Option.ne_none_iff_exists'.1 hx
      have hcell := hrow2.cellAt j (by omega)
      rw [hx] at hcell
      have hfz := hrow2.frozenAt j
      have hst := hrow2.stored j (.string (mtx (k + j)))
      rw [strV_set, marks_set (by have := HN.out; omega)] at hst
      have HST := Lib.hid hst
      have HG2 := Lib.hid hg2
      have hgw : g < w2.heap.size := (hrow2.lt g rfl).2
      clear hx hst hg2 hrow2
      go_wp2_with fail
      go_roundw
      case rel =>
        refine ⟨j + 1, by omega, by go_num, by go_num, Lib.hid HST.out.1, Lib.hid ?_⟩
        have h1 : wr.grownBy w2 (some g) := ⟨HG2.out.os, HG2.out.tape, HG2.out.output, HG2.out.size, fun k hk _ => HG2.out.block k hk (by simp)⟩
        exact (hgr.out.trans h1).trans HST.out.2
      case measure => simp [intOf]; omega
    · have hjn : j = n := by omega
      subst hjn
      go_wp2_with fail
      go_ret
      refine ⟨rfl, ?_, hgr.out⟩
      have := hrow.out
      rw [List.drop_of_length_le (by rw [HN.out]; exact Nat.le_refl _), List.append_nil] at this
      unfold OwnS
      rw [marks_len]
      exact this

set_option maxRecDepth 100000 in
set_option maxHeartbeats 1000000 in
theorem heldstr_any (B k n : Nat) (u : Value) (w : World) (hu : OwnS w B u (marks k n)) (hk : 1 ≤ k) (hl : k + n ≤ 1000000) :
    Calls Try.prog 25 #[u, .int .i64 (k : Int)] w fun e w' => e = .returned (.int .i64 ((k : Int) + (n : Int))) ∧ w.grownBy w' none := by
  obtain ⟨A, c, hform⟩ := hu.form
  rw [marks_len] at hform
  subst hform
  obtain ⟨hc1, hu2⟩ := hu.cells
  have HU := Lib.hid hu2
  clear hu hu2
  go_enter Try.func25, Try.ntmps25
  go_wp2_with fail
  go_loopw [1, 5] (fun q i wr => ∃ j : Nat, j ≤ n ∧ i = .int .i64 j ∧ q = .int .i64 ((k : Int) + (j : Int)) ∧ Hid (w.grownBy wr none)) (fun _ i _ => n - (intOf i).toNat)
  case atStart => exact ⟨0, Nat.zero_le _, rfl, by simp, Lib.hid (gr_refl _ _)⟩
  case round =>
    obtain ⟨j, hj, rfl, rfl, hgr⟩ := hrel
    by_cases hlt : j < n
    · obtain ⟨g, rfl, _, hgc, _⟩ := HU.out j _ (marks_at k n j hlt)
      have hcw := hgr.out.cell hgc (by simp)
      have HM := Lib.hid (fun w => marktext_any (k + j) w (by omega) (by omega))
      simp only [Int.natCast_add] at HM
      obtain ⟨X, hX⟩ : ∃ X, mtx (k + j) = X := ⟨_, rfl⟩
      rw [hX] at HM hcw
      clear hX hgc
      go_wp2_with fail
      go_region_held3 (fun w' => w'.cell? ⟨g, j, none⟩ = some (.string X)) (go_keep)
        (first
          | (go_at_call 48
             refine (HM.out _).mono ?_
             rintro e w2 ⟨rfl, hg2⟩
             have HG2 := Lib.hid ((gr_drewN wr 1 none).trans hg2)
             have hc2 := HG2.out.cell hcw (by simp)
             clear hg2))
      all_goals
        go_wp2_with fail
        go_roundw
        case rel => exact ⟨j + 1, by omega, by go_num, by go_num, Lib.hid (hgr.out.trans HG2.out)⟩
        case measure => simp [intOf]; omega
    · have hjn : j = n := by omega
      subst hjn
      go_wp2_with fail
      go_ret
      exact ⟨rfl, hgr.out⟩

end Go.Proofs.Ytjcbhjldanakeaa
