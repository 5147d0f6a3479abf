/- The program's sets of variables: how they read; one set laid into another. -/
import Derived.Test.YtboddoaekcchpaaGreatKeyV
import Derived.Shelf.SlMaps.Copy
import Derived.Ground.SlmpProg
namespace Go.Proofs
open Go.Shelf
set_option maxRecDepth 100000 in
shelf_lay_g SlLaysX.n5 Slmp 5 at Tryz 55 as Tryz.copyV
end Go.Proofs
namespace Go.Proofs.YtboddoaekcchpaaGreat
open Go.RowKit Go.Maps

abbrev TB : TypeId := 69
theorem zeroB (w : World) : (zeroValue 4).run Tryz.prog w = .ok (.bool false) w := by kernel_rfl

/-- A set's datum says which variables are in it. -/
def SReads (D : DataW Unit) (f : Int → Bool) : Prop := ∀ v : Int, 0 ≤ v → v ≤ 255 → Maps.has D (.int .u8 v) = f v ∧ (f v = true → ∀ zd, D.atKey (.int .u8 v) zd = .lit (.bool true))
theorem SReads.put {D : DataW Unit} {f : Int → Bool} (hD : IsMap D) (h : SReads D f) (x : Int) : SReads (D.put (.int .u8 x) (.lit (.bool true))) (fun v => decide (x = v) || f v) := fun v h0 h1 => by
  by_cases hv : v = x
  · subst hv
    refine ⟨?_, fun _ zd => ?_⟩
    · rw [has_put_same hD (by trivial)]; simp
    · rw [atKey_put_same hD (by trivial)]
  · have hne : (Lit.int .u8 v) ≠ .int .u8 x := fun e => hv (by cases e; rfl)
    have hx : ¬ (x = v) := fun e => hv e.symm
    rw [has_put_other hne, (h v h0 h1).1]
    refine ⟨by simp [hx], fun hf zd => ?_⟩
    rw [atKey_put_other hne]
    exact (h v h0 h1).2 (by simpa [hx] using hf) zd
theorem SReads.del {D : DataW Unit} {f : Int → Bool} (h : SReads D f) (x : Int) : SReads (D.del (.int .u8 x)) (fun v => f v && decide (x ≠ v)) := fun v h0 h1 => by
  by_cases hv : v = x
  · subst hv
    rw [has_del_same]
    exact ⟨by simp, fun hf => by simp at hf⟩
  · have hne : (Lit.int .u8 v) ≠ .int .u8 x := fun e => hv (by cases e; rfl)
    have hx : ¬ (x = v) := fun e => hv e.symm
    rw [has_del_other hne, (h v h0 h1).1]
    refine ⟨by simp [hx], fun hf zd => ?_⟩
    rw [atKey_del_other hne]
    exact (h v h0 h1).2 (by simpa [hx] using hf) zd
theorem atKey_map (es : List (Lit × DataW Unit)) (k : Lit) (z : DataW Unit) : (DataW.map es).atKey k z = match es.find? (fun p => p.1.sameKey k) with | some p => p.2 | none => z := by
  simp only [DataW.atKey]
  cases es.find? (fun p => p.1.sameKey k) <;> rfl
theorem has_any (es : List (Lit × DataW Unit)) (k : Lit) : Maps.has (.map es) k = es.any (fun p => p.1.sameKey k) := rfl
theorem SReads.merge {Dd Ds : DataW Unit} {f g : Int → Bool} {es : List (Lit × DataW Unit)} (hD : IsMap Dd) (he : Ds = .map es) (hk : ∀ p ∈ es, WideAt.IsKeyLit p.1) (hp : es.Pairwise (fun p q => p.1 ≠ q.1)) (h : SReads Dd f) (h2 : SReads Ds g) :
    SReads (Lib.mergeD Dd Ds) (fun v => f v || g v) := fun v h0 h1 => by
  subst he
  have hh := has_foldPut (.int .u8 v) es Dd hD hk
  have ha := fun z => atKey_foldPut (.int .u8 v) z es Dd hD hk hp
  have h2v := h2 v h0 h1
  have hv := h v h0 h1
  rw [has_any] at h2v
  unfold Lib.mergeD
  simp only
  refine ⟨by rw [hh, hv.1, h2v.1], fun hfg zd => ?_⟩
  rw [ha]
  cases hg : g v with
  | true =>
    have := h2v.2 hg
    cases hf : es.find? (fun p => p.1.sameKey (.int .u8 v)) with
    | some p => have := this .nil; rw [atKey_map, hf] at this; exact this
    | none => have := this .nil; rw [atKey_map, hf] at this; cases this
  | false =>
    rw [hg] at h2v
    have hn : es.find? (fun p => p.1.sameKey (.int .u8 v)) = none := by
      rw [List.find?_eq_none]
      have := List.any_eq_false.1 h2v.1
      exact fun p hp => by simpa using this p hp
    rw [hn]
    exact hv.2 (by simpa [hg] using hfg) zd

/-- A set in memory. -/
def VSet (w : World) (b m : Nat) (f : Int → Bool) : Prop := ∃ D : DataW Unit, w.ownsMap Tryz.prog 51 (plainElem Tryz.prog 4) b m D ∧ SReads D f
theorem VSet.grown {w w' : World} {b m : Nat} {f : Int → Bool} {row : Option Nat} (h : VSet w b m f) (hg : w.grownBy w' row) (hne : some b ≠ row) : VSet w' b m f := by
  obtain ⟨D, ho, hr⟩ := h
  exact ⟨D, ho.kept hg hne, hr⟩
theorem VSet.mono {w : World} {b m m' : Nat} {f : Int → Bool} (h : VSet w b m f) (hm : m ≤ m') : VSet w b m' f := by
  obtain ⟨D, ho, hr⟩ := h
  exact ⟨D, ho.mono hm, hr⟩
theorem VSet.lt {w : World} {b m : Nat} {f : Int → Bool} (h : VSet w b m f) : b < w.heap.size := by
  obtain ⟨D, ho, _⟩ := h
  exact ho.lt
theorem VSet.new (w : World) : VSet (w.alloc (.map #[] 0)) w.heap.size 0 (fun _ => false) :=
  ⟨_, World.ownsMap_made w _ _ _, fun v _ _ => ⟨rfl, fun h => by cases h⟩⟩
theorem VSet.as {w : World} {b m : Nat} {f g : Int → Bool} (h : VSet w b m f) (he : ∀ v, f v = g v) : VSet w b m g := by
  rw [show g = f from funext fun v => (he v).symm]
  exact h
set_option maxRecDepth 100000 in
/-- The lookup in a set. -/
theorem VSet.look {w : World} {b m : Nat} {f : Int → Bool} (h : VSet w b m f) {v : Int} (h0 : 0 ≤ v) (h1 : v ≤ 255) : (Instr.lookup TB (.map (some b)) (.int .u8 v) false).run Tryz.prog w = .ok (.bool (f v)) w := by
  obtain ⟨D, ho, hr⟩ := h
  obtain ⟨x, ps, hrun, hx⟩ := ho.lookup keyedV Tryz.underlying69 (zeroB w) (plainElem_bool Tryz.underlying4 false) (keyV h0 h1)
  have hv := hr v h0 h1
  have hxe : x = .bool (f v) := by
    cases hf : f v with
    | true =>
      rw [hv.2 hf] at hx
      unfold plainElem at hx
      rw [Tryz.underlying4] at hx
      cases x <;> simp at hx
      rw [hx.1]
    | false =>
      rw [hf] at hv
      have : D.atKey (.int .u8 v) (.lit (.bool false)) = .lit (.bool false) := by
        obtain ⟨es, rfl⟩ := ho.isMap
        have hn : es.find? (fun p => p.1.sameKey (.int .u8 v)) = none := by
          rw [List.find?_eq_none]
          have := List.any_eq_false.1 hv.1
          exact fun p hp => by simpa using this p hp
        rw [atKey_map, hn]
      rw [this] at hx
      unfold plainElem at hx
      rw [Tryz.underlying4] at hx
      cases x <;> simp at hx
      rw [hx.1]
  rw [hxe] at hrun
  exact hrun

/-- maps.Copy at sets. -/
theorem copy_any (bd bs nd ns : Nat) (f g : Int → Bool) (w : World) (hd : VSet w bd nd f) (hs : VSet w bs ns g) (hne : bd ≠ bs) (hroom : nd + ns ≤ 1000000) :
    Calls Tryz.prog 55 #[.map (some bd), .map (some bs)] w fun e w' => e = .returned (.tuple #[]) ∧ VSet w' bd (nd + ns) (fun v => f v || g v) ∧ w.grownBy w' (some bd) := by
  obtain ⟨Dd, hod, hrd⟩ := hd
  obtain ⟨Ds, hos, hrs⟩ := hs
  have hsz := hos.size_le
  refine (AnyX.maps_Copy Tryz.copyV keyedV _ bd bs nd ns Dd Ds w hod hos hne (by simp only [maxLen]; omega)).mono fun e w' ⟨he, h1, _, hg⟩ => ⟨he, ⟨_, h1.mono (by omega), ?_⟩, hg⟩
  obtain ⟨es, hes, hp⟩ := hos.tidy keyedV
  obtain ⟨es2, hes2, _, hk⟩ := hos.canonK keyedV
  have : es2 = es := by rw [hes] at hes2; cases hes2; rfl
  subst this
  exact hrd.merge hod.isMap hes (fun p hp => keyedV.one.key (hk p hp)) hp hrs

end Go.Proofs.YtboddoaekcchpaaGreat
