/- The model's builder in memory: behind a term that is taken, one that is put. -/
import Derived.Test.YtohdlnkkchijnaaGreatDoorSPop
import Derived.Test.YtohdlnkkchijnaaGreatDoorMach2
namespace Go.Proofs.YtohdlnkkchijnaaGreatDoor
open Go.RowKit

/-- The new row lies where the old one lay, or in new memory. -/
def Fr3 (w : World) (v v' : Value) : Prop := ∀ g, v'.ownBlock = some g → v.ownBlock = some g ∨ w.heap.size ≤ g
theorem Fr3.refl (w : World) (v : Value) : Fr3 w v v := fun _ h => .inl h
theorem Fr3.trans {w w1 : World} {a b c : Value} (h : Fr3 w a b) (k : Fr3 w1 b c) (hs : w.heap.size ≤ w1.heap.size) : Fr3 w a c := fun g hg => (k g hg).elim (fun e => h g e) (fun e => .inr (by omega))

def BW (b : Nat) (v0 v1 v2 : Value) (k : Nat) : Prop := k = b ∨ v0.ownBlock = some k ∨ v1.ownBlock = some k ∨ v2.ownBlock = some k

/-- Changes of the builder's own blocks, one behind the other. -/
theorem bw_trans {a c d : World} {b : Nat} {v0 v1 v2 u0 u1 u2 : Value} (h : Chg (BW b v0 v1 v2) a c) (k : Chg (BW b u0 u1 u2) c d) (f0 : Fr3 a v0 u0) (f1 : Fr3 a v1 u1) (f2 : Fr3 a v2 u2) : Chg (BW b v0 v1 v2) a d :=
  h.trans k (fun _ _ e => e) (fun i hi e => by
    rcases e with e | e | e | e
    · exact .inl e
    · exact (f0 i e).elim (fun e => .inr (.inl e)) (fun e => by omega)
    · exact (f1 i e).elim (fun e => .inr (.inr (.inl e))) (fun e => by omega)
    · exact (f2 i e).elim (fun e => .inr (.inr (.inr e))) (fun e => by omega))

theorem bs_node_not {w : World} {n0 b : Nat} {m : MS} {v0 v1 v2 : Value} {xs : List (Int × Int × Value)} (h : BS w n0 b m v0 v1 v2 xs) : ∀ k cs fr, v0.ownBlock ≠ some k → w.heap[k]? = some (.cells cs 52 fr) → ¬ BW b v0 v1 v2 k := by
  intro k cs fr hk hh e
  rcases e with e | e | e | e
  · subst e
    have := h.box
    unfold C3 at this
    rw [this] at hh
    cases hh
  · exact hk e
  · exact own_not h.lo hh (by decide) e
  · exact own_not h.ba hh (by decide) e

/-- Nodes stay while the builder's blocks are written. -/
theorem bs_sn {w w' : World} {n0 b : Nat} {m : MS} {v0 v1 v2 u : Value} {xs : List (Int × Int × Value)} (h : BS w n0 b m v0 v1 v2 xs) (hc : Chg (BW b v0 v1 v2) w w') (hu : Fr3 w v0 u) (t : Tm) (x : Int × Int × Value) (ht : SN w (fun k => v0.ownBlock ≠ some k) t x) : SN w' (fun k => u.ownBlock ≠ some k) t x :=
  SN.keepT (fun k cs fr hk hh => (hc.same k (blk_lt hh) (bs_node_not h k cs fr hk hh)).trans hh) (fun k hk hl e => (hu k e).elim (fun e => hk e) (fun e => by omega)) t x ht

theorem BS.grown {w w' : World} {n0 b : Nat} {m : MS} {v0 v1 v2 : Value} {xs : List (Int × Int × Value)} (h : BS w n0 b m v0 v1 v2 xs) (hg : w.grownBy w' none) : BS w' n0 b m v0 v1 v2 xs :=
  ⟨h.base, h.box.grown hg (by simp), own_keep h.st (fun k hk => hg.block k (h.st.lt k hk).2 (by simp)), All2.mono (fun t x ht => ht.grown hg) _ _ h.sn, own_keep h.lo (fun k hk => hg.block k (h.lo.lt k hk).2 (by simp)), own_keep h.ba (fun k hk => hg.block k (h.ba.lt k hk).2 (by simp))⟩

theorem bs_len {w : World} {n0 b : Nat} {m : MS} {v0 v1 v2 : Value} {xs : List (Int × Int × Value)} (h : BS w n0 b m v0 v1 v2 xs) : xs.length = (low m.2).length + m.1.length := by
  have := All2.length _ _ h.sn
  rw [← this, ← hgt_eq]; rfl

theorem bs_floor {w : World} {n0 b : Nat} {m : MS} {v0 v1 v2 : Value} {xs : List (Int × Int × Value)} (h : BS w n0 b m v0 v1 v2 xs) (hl : m.2.length ≤ 1000000) : FloorAt w v2 (low m.2).length := by
  obtain ⟨ts, os⟩ := m
  obtain ⟨A, k, c, rfl⟩ := own_form h.ba
  have hk := own_len h.ba
  refine ⟨A, k, c, rfl, by rw [hk]; exact hl, ?_⟩
  cases os with
  | nil => exact .inl ⟨hk, rfl⟩
  | cons o os =>
    have hba := h.ba
    simp only [List.length_cons] at hk
    subst hk
    simp only [bsI, List.map_append, List.map_cons, List.map_nil, List.length_cons] at hba
    obtain ⟨g, rfl, hg, _, _, hx⟩ := own_last hba
    exact .inr ⟨os.length, g, rfl, rfl, hg, hx⟩

/-- A term is taken, as a call. -/
theorem bs_popC {w : World} {n0 b : Nat} {x : Tm} {ts : List Tm} {os : List Out} {v0 v1 v2 : Value} {xs : List (Int × Int × Value)} (h : BS w n0 b (x :: ts, os) v0 v1 v2 xs) (hl : xs.length ≤ 1000) (hl2 : os.length ≤ 1000) :
    ∃ xa xc A0 k0 c0, Calls Tryz.prog 103 #[.pointer (some ⟨b, 0, none⟩)] w fun e w' => e = .returned (.tuple #[.agg #[.int .u8 xa, .int .u8 xc, .slice A0 k0 c0], .bool true]) ∧
      Chg (fun k => k = b) w w' ∧ ∃ u0 xs', u0.ownBlock = v0.ownBlock ∧ BS w' n0 b (ts, os) u0 v1 v2 xs' ∧ SN w' (fun k => v0.ownBlock ≠ some k) x (xa, xc, .slice A0 k0 c0) ∧ (∀ S t N, SN w S t N → SN w' S t N) := by
  have hlen := bs_len h
  simp only [List.length_cons] at hlen
  have hsn := h.sn
  rw [show flatS ((x :: ts, os) : MS) = flatS ((ts, os) : MS) ++ [x] by simp [flatS]] at hsn
  obtain ⟨xs', ⟨xa, xc, sv⟩, rfl, h1, h2⟩ := hsn.unsnoc
  obtain ⟨A0, k0, c0, hsv⟩ := h2.form
  simp only at hsv
  subst hsv
  obtain ⟨A, kk, cc, rfl⟩ := own_form h.st
  have hst := h.st
  have hkk := own_len hst
  have hx1 : xs'.length + 1 = (low os).length + (ts.length + 1) := by simpa using hlen
  have hkn : kk = xs'.length + 1 := by simpa using hkk
  subst hkn
  have hst2 : w.ownsRow n0 52 3 (.slice A (xs'.length + 1) cc) (xs'.length + 1) (flat3 (xs' ++ [(xa, xc, .slice A0 k0 c0)])) := by simpa using hst
  have hlx : xs'.length ≤ 1000 := by simp at hl; omega
  refine ⟨xa, xc, A0, k0, c0, (spop_some n0 b A xs'.length cc (low os).length v1 v2 xa xc A0 k0 c0 xs' w h.box hst2 (bs_floor h (by simp only; omega)) (by omega) (by omega)).mono ?_⟩
  rintro e w' ⟨rfl, hc, hb⟩
  have hcw : Chg (BW b (.slice A (xs'.length + 1) cc) v1 v2) w w' := hc.mono (fun _ _ e => .inl e)
  have hnb : ∀ {size n : Nat} {e : TypeId} {v : Value} {ys : List Value}, e ≠ 129 → w.ownsRow n0 e size v n ys → w'.ownsRow n0 e size v n ys := fun he ho =>
    own_keep ho (fun g hg => hc.same g (ho.lt g hg).2 (fun e' => own_not ho h.box (fun e2 => he e2.symm) (e' ▸ hg)))
  have hk : ∀ (S : Nat → Prop) t N, SN w S t N → SN w' S t N := fun S t N ht => SN.keepT (fun k cs fr _ hh => (hc.same k (blk_lt hh) (fun e => by
    subst e
    have := h.box
    unfold C3 at this
    rw [this] at hh
    cases hh)).trans hh) (fun _ hs _ => hs) t N ht
  have hob : (Value.slice A xs'.length cc).ownBlock = (Value.slice A (xs'.length + 1) cc).ownBlock := by cases A <;> rfl
  refine ⟨rfl, hc, .slice A xs'.length cc, xs', hob, ⟨h.base, hb, hnb (by decide) (own_short (ys := flat3 [(xa, xc, .slice A0 k0 c0)]) (by rw [← flat3_append]; exact hst2) (by omega) (by rw [flat3_length])), ?_, hnb (by decide) h.lo, hnb (by decide) h.ba⟩, hk _ _ _ h2, hk⟩
  rw [hob]
  exact All2.mono (fun t N ht => hk _ t N ht) _ _ h1

theorem bs_popN {w : World} {n0 b : Nat} {os : List Out} {v0 v1 v2 : Value} {xs : List (Int × Int × Value)} (h : BS w n0 b ([], os) v0 v1 v2 xs) (hl : xs.length ≤ 1000) (hl2 : os.length ≤ 1000) :
    Calls Tryz.prog 103 #[.pointer (some ⟨b, 0, none⟩)] w fun e w' => e = .returned (.tuple #[nodeZ, .bool false]) ∧ w.grownBy w' none := by
  have hlen := bs_len h
  obtain ⟨A, kk, cc, rfl⟩ := own_form h.st
  have hkk := own_len h.st
  have hf := bs_floor h (by simp only; omega)
  simp only [List.length_nil] at hlen
  exact spop_none b A kk cc (low os).length v1 v2 w h.box hf (by omega) (by omega)

theorem bs_pushC {w : World} {n0 b : Nat} {t : Tm} {ts : List Tm} {os : List Out} {v0 v1 v2 : Value} {xs : List (Int × Int × Value)} {a c : Int} {A0 : Option Addr} {k0 c0 : Nat} (h : BS w n0 b (ts, os) v0 v1 v2 xs) (hx : SN w (fun k => v0.ownBlock ≠ some k) t (a, c, .slice A0 k0 c0)) (hl : xs.length ≤ 1000) (hn : n0 ≤ w.heap.size) :
    Calls Tryz.prog 102 #[.pointer (some ⟨b, 0, none⟩), .agg #[.int .u8 a, .int .u8 c, .slice A0 k0 c0]] w fun e w' => e = .returned (.tuple #[]) ∧
      Chg (BW b v0 v1 v2) w w' ∧ ∃ u0 xs', BS w' n0 b (t :: ts, os) u0 v1 v2 xs' ∧ Fr3 w v0 u0 := by
  refine (spush n0 b v0 v1 v2 a c A0 k0 c0 xs w h.box h.st (by omega) hn).mono ?_
  rintro e w' ⟨rfl, u, hb, ho, hc, hu⟩
  have hcw : Chg (BW b v0 v1 v2) w w' := hc.mono (fun _ _ e => e.elim (fun e => .inl e) (fun e => .inr (.inl e)))
  have hnb : ∀ {size n : Nat} {e : TypeId} {v : Value} {ys : List Value}, e ≠ 129 → e ≠ 52 → w.ownsRow n0 e size v n ys → w'.ownsRow n0 e size v n ys := fun he he2 ho2 =>
    own_keep ho2 (fun g hg => hc.same g (ho2.lt g hg).2 (fun e' => by
      rcases e' with e' | e'
      · exact own_not ho2 h.box (fun e2 => he e2.symm) (e' ▸ hg)
      · obtain ⟨cs, hcs⟩ := own_heap ho2 hg
        exact own_not h.st hcs he2 e'))
  refine ⟨rfl, hcw, u, xs ++ [(a, c, .slice A0 k0 c0)], ⟨h.base, hb, ho, ?_, hnb (by decide) (by decide) h.lo, hnb (by decide) (by decide) h.ba⟩, hu⟩
  rw [show flatS ((t :: ts, os) : MS) = flatS ((ts, os) : MS) ++ [t] by simp [flatS]]
  exact All2.snoc (bs_sn h hcw hu _ _ hx) _ _ (All2.mono (fun t N ht => bs_sn h hcw hu t N ht) _ _ h.sn)

end Go.Proofs.YtohdlnkkchijnaaGreatDoor
