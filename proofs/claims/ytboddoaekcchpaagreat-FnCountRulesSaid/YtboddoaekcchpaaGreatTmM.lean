/- How a term lies in memory: the program's nodes behind the interface, the model's nodes in rows; and that it stays while other blocks are written. -/
import Derived.Test.YtboddoaekcchpaaGreatTm
import Derived.Test.YtboddoaekcchpaaGreatOwn
namespace Go.Proofs.YtboddoaekcchpaaGreat
open Go.RowKit

/-- The program's term behind the interface. Its blocks are among S. -/
def PT (w : World) (S : Nat → Prop) : Tm → Value → Prop
  | .dig c, v => v = .iface 110 (.int .u8 c)
  | .var c, v => v = .iface 51 (.int .u8 c)
  | .pre c s, v => ∃ b x, v = .iface 112 (.pointer (some ⟨b, 0, none⟩)) ∧ S b ∧ w.heap[b]? = some (.cells #[.int .u8 c, x] 115 (0, 0)) ∧ PT w S s x
  | .two c s t, v => ∃ b x y, v = .iface 116 (.pointer (some ⟨b, 0, none⟩)) ∧ S b ∧ w.heap[b]? = some (.cells #[.int .u8 c, x, y] 119 (0, 0)) ∧ PT w S s x ∧ PT w S t y
  | .loop c i s t, v => ∃ b x y, v = .iface 94 (.pointer (some ⟨b, 0, none⟩)) ∧ S b ∧ w.heap[b]? = some (.cells #[.int .u8 c, .int .u8 i, x, y] 97 (0, 0)) ∧ PT w S s x ∧ PT w S t y

theorem blk_lt {w : World} {b : Nat} {o : Obj} (h : w.heap[b]? = some o) : b < w.heap.size := by
  rcases Nat.lt_or_ge b w.heap.size with hlt | hge
  · exact hlt
  · rw [Array.getElem?_eq_none hge] at h; cases h

theorem PT.keep {w w' : World} {S S' : Nat → Prop} (hk : ∀ b, S b → b < w.heap.size → w'.heap[b]? = w.heap[b]?) (hs : ∀ b, S b → b < w.heap.size → S' b) : ∀ (t : Tm) (v : Value), PT w S t v → PT w' S' t v
  | .dig _, _, h => h
  | .var _, _, h => h
  | .pre _ s, _, ⟨b, x, hv, hb, hh, h1⟩ => ⟨b, x, hv, hs b hb (blk_lt hh), (hk b hb (blk_lt hh)).trans hh, PT.keep hk hs s x h1⟩
  | .two _ s t, _, ⟨b, x, y, hv, hb, hh, h1, h2⟩ => ⟨b, x, y, hv, hs b hb (blk_lt hh), (hk b hb (blk_lt hh)).trans hh, PT.keep hk hs s x h1, PT.keep hk hs t y h2⟩
  | .loop _ _ s t, _, ⟨b, x, y, hv, hb, hh, h1, h2⟩ => ⟨b, x, y, hv, hs b hb (blk_lt hh), (hk b hb (blk_lt hh)).trans hh, PT.keep hk hs s x h1, PT.keep hk hs t y h2⟩

theorem PT.iface {w : World} {S : Nat → Prop} : ∀ {t : Tm} {v : Value}, PT w S t v → ∃ ty pv, v = .iface ty pv
  | .dig _, _, h => ⟨_, _, h⟩
  | .var _, _, h => ⟨_, _, h⟩
  | .pre _ _, _, ⟨_, _, hv, _⟩ => ⟨_, _, hv⟩
  | .two _ _ _, _, ⟨_, _, _, hv, _⟩ => ⟨_, _, hv⟩
  | .loop _ _ _ _, _, ⟨_, _, _, hv, _⟩ => ⟨_, _, hv⟩

/-- A memory in which whatever lies below a block lies as it did: a term's blocks below it stay. -/
theorem PT.grown {w w' : World} {S : Nat → Prop} {t : Tm} {v : Value} (h : PT w S t v) (hg : w.grownBy w' none) : PT w' S t v :=
  h.keep (fun b _ hb => hg.block b hb (by simp)) (fun _ hb _ => hb) t v
theorem PT.any {w : World} {S : Nat → Prop} {t : Tm} {v : Value} (h : PT w S t v) : PT w (fun _ => True) t v :=
  h.keep (fun _ _ _ => rfl) (fun _ _ _ => trivial) t v

/-- The model's nodes, flattened in a row. -/
def flat3 : List (Int × Int × Value) → List Value
  | [] => []
  | (m, n, sv) :: l => .int .u8 m :: .int .u8 n :: sv :: flat3 l
theorem flat3_length : ∀ l, (flat3 l).length = l.length * 3
  | [] => rfl
  | (m, n, sv) :: l => by simp [flat3, flat3_length l]; omega

/-- The model's node: its sign, its name, its parts in a row. Its blocks are among S. -/
def SN (w : World) (S : Nat → Prop) : Tm → Int × Int × Value → Prop
  | .dig c, x => x.1 = 48 ∧ x.2.1 = c ∧ w.ownsRow 0 57 3 x.2.2 0 [] ∧ (∀ g, x.2.2.ownBlock = some g → S g)
  | .var c, x => x.1 = 97 ∧ x.2.1 = c ∧ w.ownsRow 0 57 3 x.2.2 0 [] ∧ (∀ g, x.2.2.ownBlock = some g → S g)
  | .pre c s, x => x.1 = c ∧ x.2.1 = 0 ∧ ∃ y, w.ownsRow 0 57 3 x.2.2 1 (flat3 [y]) ∧ (∀ g, x.2.2.ownBlock = some g → S g) ∧ SN w S s y
  | .two c s t, x => x.1 = c ∧ x.2.1 = 0 ∧ ∃ y z, w.ownsRow 0 57 3 x.2.2 2 (flat3 [y, z]) ∧ (∀ g, x.2.2.ownBlock = some g → S g) ∧ SN w S s y ∧ SN w S t z
  | .loop c i s t, x => x.1 = c ∧ x.2.1 = i ∧ ∃ y z, w.ownsRow 0 57 3 x.2.2 2 (flat3 [y, z]) ∧ (∀ g, x.2.2.ownBlock = some g → S g) ∧ SN w S s y ∧ SN w S t z

theorem SN.keep {w w' : World} {S S' : Nat → Prop} (hk : ∀ b, S b → b < w.heap.size → w'.heap[b]? = w.heap[b]?) (hs : ∀ b, S b → b < w.heap.size → S' b) : ∀ (t : Tm) (x : Int × Int × Value), SN w S t x → SN w' S' t x
  | .dig _, _, ⟨h1, h2, ho, hS⟩ => ⟨h1, h2, own_keep ho (fun g hg => hk g (hS g hg) (ho.lt g hg).2), fun g hg => hs g (hS g hg) (ho.lt g hg).2⟩
  | .var _, _, ⟨h1, h2, ho, hS⟩ => ⟨h1, h2, own_keep ho (fun g hg => hk g (hS g hg) (ho.lt g hg).2), fun g hg => hs g (hS g hg) (ho.lt g hg).2⟩
  | .pre _ s, _, ⟨h1, h2, y, ho, hS, h3⟩ => ⟨h1, h2, y, own_keep ho (fun g hg => hk g (hS g hg) (ho.lt g hg).2), fun g hg => hs g (hS g hg) (ho.lt g hg).2, SN.keep hk hs s y h3⟩
  | .two _ s t, _, ⟨h1, h2, y, z, ho, hS, h3, h4⟩ => ⟨h1, h2, y, z, own_keep ho (fun g hg => hk g (hS g hg) (ho.lt g hg).2), fun g hg => hs g (hS g hg) (ho.lt g hg).2, SN.keep hk hs s y h3, SN.keep hk hs t z h4⟩
  | .loop _ _ s t, _, ⟨h1, h2, y, z, ho, hS, h3, h4⟩ => ⟨h1, h2, y, z, own_keep ho (fun g hg => hk g (hS g hg) (ho.lt g hg).2), fun g hg => hs g (hS g hg) (ho.lt g hg).2, SN.keep hk hs s y h3, SN.keep hk hs t z h4⟩

theorem SN.form {w : World} {S : Nat → Prop} : ∀ {t : Tm} {x : Int × Int × Value}, SN w S t x → ∃ A k c, x.2.2 = .slice A k c
  | .dig _, _, ⟨_, _, ho, _⟩ => own_form ho
  | .var _, _, ⟨_, _, ho, _⟩ => own_form ho
  | .pre _ _, _, ⟨_, _, _, ho, _⟩ => own_form ho
  | .two _ _ _, _, ⟨_, _, _, _, ho, _⟩ => own_form ho
  | .loop _ _ _ _, _, ⟨_, _, _, _, ho, _⟩ => own_form ho
theorem SN.grown {w w' : World} {S : Nat → Prop} {t : Tm} {x : Int × Int × Value} (h : SN w S t x) (hg : w.grownBy w' none) : SN w' S t x :=
  h.keep (fun b _ hb => hg.block b hb (by simp)) (fun _ hb _ => hb) t x

end Go.Proofs.YtboddoaekcchpaaGreat
