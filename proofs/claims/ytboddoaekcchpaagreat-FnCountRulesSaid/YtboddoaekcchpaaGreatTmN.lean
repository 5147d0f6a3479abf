/- Blocks of terms are no blocks of other types; assertions that fail at terms of another kind. -/
import Derived.Test.YtboddoaekcchpaaGreatTmM
import Derived.Test.YtboddoaekcchpaaGreatTAs
namespace Go.Proofs.YtboddoaekcchpaaGreat
open Go.RowKit

theorem own_type {w : World} {base : Nat} {e : TypeId} {size n : Nat} {sv : Value} {xs : List Value} (h : w.ownsRow base e size sv n xs) {g : Nat} (hg : sv.ownBlock = some g) : ∃ cur, w.heap[g]? = some (.cells cur e (0, 0)) := by
  rcases h.2 with ⟨hv, _⟩ | ⟨g', cap, cur, hv, _, hg', _⟩
  · rw [hv] at hg; cases hg
  · rw [hv] at hg; simp [Value.ownBlock] at hg; subst hg; exact ⟨_, hg'⟩

theorem PT.apart {w : World} {S : Nat → Prop} {c : Nat} {cs : Array Value} {ty : TypeId} {fz : Nat × Nat} (hc : w.heap[c]? = some (.cells cs ty fz))
    (h1 : ty ≠ 115) (h2 : ty ≠ 119) (h3 : ty ≠ 97) : ∀ {t : Tm} {v : Value}, PT w S t v → PT w (fun b => S b ∧ b ≠ c) t v
  | .dig _, _, h => h
  | .var _, _, h => h
  | .pre _ _, _, ⟨b, x, hv, hb, hh, hx⟩ => ⟨b, x, hv, ⟨hb, fun e => by rw [e, hc] at hh; cases hh; exact h1 rfl⟩, hh, PT.apart hc h1 h2 h3 hx⟩
  | .two _ _ _, _, ⟨b, x, y, hv, hb, hh, hx, hy⟩ => ⟨b, x, y, hv, ⟨hb, fun e => by rw [e, hc] at hh; cases hh; exact h2 rfl⟩, hh, PT.apart hc h1 h2 h3 hx, PT.apart hc h1 h2 h3 hy⟩
  | .loop _ _ _ _, _, ⟨b, x, y, hv, hb, hh, hx, hy⟩ => ⟨b, x, y, hv, ⟨hb, fun e => by rw [e, hc] at hh; cases hh; exact h3 rfl⟩, hh, PT.apart hc h1 h2 h3 hx, PT.apart hc h1 h2 h3 hy⟩
theorem SN.apart {w : World} {S : Nat → Prop} {c : Nat} {cs : Array Value} {ty : TypeId} {fz : Nat × Nat} (hc : w.heap[c]? = some (.cells cs ty fz))
    (h1 : ty ≠ 57) : ∀ {t : Tm} {x : Int × Int × Value}, SN w S t x → SN w (fun b => S b ∧ b ≠ c) t x := by
  have key : ∀ {n : Nat} {sv : Value} {xs : List Value}, w.ownsRow 0 57 3 sv n xs → (∀ g, sv.ownBlock = some g → S g) → ∀ g, sv.ownBlock = some g → S g ∧ g ≠ c := by
    intro n sv xs ho hS g hg
    refine ⟨hS g hg, fun e => ?_⟩
    obtain ⟨cur, hcur⟩ := own_type ho hg
    rw [e, hc] at hcur
    cases hcur
    exact h1 rfl
  intro t
  induction t with
  | dig d => intro x ⟨a1, a2, ho, hS⟩; exact ⟨a1, a2, ho, key ho hS⟩
  | var d => intro x ⟨a1, a2, ho, hS⟩; exact ⟨a1, a2, ho, key ho hS⟩
  | pre d s ih => intro x ⟨a1, a2, y, ho, hS, hy⟩; exact ⟨a1, a2, y, ho, key ho hS, ih hy⟩
  | two d s t ih1 ih2 => intro x ⟨a1, a2, y, z, ho, hS, hy, hz⟩; exact ⟨a1, a2, y, z, ho, key ho hS, ih1 hy, ih2 hz⟩
  | loop d i s t ih1 ih2 => intro x ⟨a1, a2, y, z, ho, hS, hy, hz⟩; exact ⟨a1, a2, y, z, ho, key ho hS, ih1 hy, ih2 hz⟩

/-- Which kind a term is of. -/
def Tm.isDgt : Tm → Bool
  | .dig _ => true
  | _ => false
def Tm.isPrf : Tm → Bool
  | .pre _ _ => true
  | _ => false
def Tm.isTwo : Tm → Bool
  | .two _ _ _ => true
  | _ => false
def Tm.isLp : Tm → Bool
  | .loop _ _ _ _ => true
  | _ => false
theorem ta_nodgt {w : World} {S : Nat → Prop} {t : Tm} {ty : TypeId} {pv : Value} (h : PT w S t (.iface ty pv)) (hl : t.isDgt = false) (xT : TypeId) (u : World) :
    (Instr.typeAssert (.iface ty pv) xT 110 true).run Tryz.prog u = .ok (.tuple #[.int .u8 0, .bool false]) u := by
  cases t with
  | dig c => cases hl
  | var c => cases h; exact ta_var_dig _ _ _
  | pre c s => obtain ⟨b, x, hv, _⟩ := h; cases hv; exact ta_pre_dig _ _ _
  | two c s t => obtain ⟨b, x, y, hv, _⟩ := h; cases hv; exact ta_two_dig _ _ _
  | loop c i s t => obtain ⟨b, x, y, hv, _⟩ := h; cases hv; exact ta_loop_dig _ _ _
theorem ta_nopre {w : World} {S : Nat → Prop} {t : Tm} {ty : TypeId} {pv : Value} (h : PT w S t (.iface ty pv)) (hl : t.isPrf = false) (xT : TypeId) (u : World) :
    (Instr.typeAssert (.iface ty pv) xT 112 true).run Tryz.prog u = .ok (.tuple #[.pointer none, .bool false]) u := by
  cases t with
  | dig c => cases h; exact ta_dig_pre _ _ _
  | var c => cases h; exact ta_var_pre _ _ _
  | pre c s => cases hl
  | two c s t => obtain ⟨b, x, y, hv, _⟩ := h; cases hv; exact ta_two_pre _ _ _
  | loop c i s t => obtain ⟨b, x, y, hv, _⟩ := h; cases hv; exact ta_loop_pre _ _ _
theorem ta_notwo {w : World} {S : Nat → Prop} {t : Tm} {ty : TypeId} {pv : Value} (h : PT w S t (.iface ty pv)) (hl : t.isTwo = false) (xT : TypeId) (u : World) :
    (Instr.typeAssert (.iface ty pv) xT 116 true).run Tryz.prog u = .ok (.tuple #[.pointer none, .bool false]) u := by
  cases t with
  | dig c => cases h; exact ta_dig_two _ _ _
  | var c => cases h; exact ta_var_two _ _ _
  | pre c s => obtain ⟨b, x, hv, _⟩ := h; cases hv; exact ta_pre_two _ _ _
  | two c s t => cases hl
  | loop c i s t => obtain ⟨b, x, y, hv, _⟩ := h; cases hv; exact ta_loop_two _ _ _
theorem ta_nolp {w : World} {S : Nat → Prop} {t : Tm} {ty : TypeId} {pv : Value} (h : PT w S t (.iface ty pv)) (hl : t.isLp = false) (xT : TypeId) (u : World) :
    (Instr.typeAssert (.iface ty pv) xT 94 true).run Tryz.prog u = .ok (.tuple #[.pointer none, .bool false]) u := by
  cases t with
  | dig c => cases h; exact ta_dig_loop _ _ _
  | var c => cases h; exact ta_var_loop _ _ _
  | pre c s => obtain ⟨b, x, hv, _⟩ := h; cases hv; exact ta_pre_loop _ _ _
  | two c s t => obtain ⟨b, x, y, hv, _⟩ := h; cases hv; exact ta_two_loop _ _ _
  | loop c i s t => cases hl

end Go.Proofs.YtboddoaekcchpaaGreat
