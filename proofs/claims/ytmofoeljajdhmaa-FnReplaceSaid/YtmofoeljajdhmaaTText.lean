/- What appendTo of the program does at whatever term; textOfTerm. -/
import Derived.Test.YtmofoeljajdhmaaTAppL
import Derived.Lib.SlBytesRow
namespace Go.Proofs.Ytmofoeljajdhmaa
open Go.RowKit

theorem app_any (B : Nat) : ∀ (t : Tm) (l : List UInt8) (ty : TypeId) (pv tv : Value) (w : World), t.Ok → PT w (fun b => b < B) t (.iface ty pv) → Txt w B tv l → l.length + t.txt.length ≤ 50000000 → Calls Try.prog (appF t) #[pv, tv] w (AppP B l t.txt w)
  | .dig c, l, ty, pv, tv, w, ho, h, ht, hl => by
    have hg := isD_ge ho
    cases h
    exact app_dig B l c tv w (by omega) (by omega) ht (by simp [Tm.txt] at hl; omega)
  | .var c, l, ty, pv, tv, w, ho, h, ht, hl => by
    have hg := isV_ge ho
    cases h
    exact app_var B l c tv w (by omega) (by omega) ht (by simp [Tm.txt] at hl; omega)
  | .pre c s, l, ty, pv, tv, w, ho, h, ht, hl => by
    have hg := isP_ge ho.1
    obtain ⟨b, x, hv, hb, hh, hx⟩ := h
    cases hv
    exact app_pre B b l c s tv x w (by omega) (by omega) ht (by simp [Tm.txt] at hl; omega) hb hh hx (fun l ty pv tv w h ht hl => app_any B s l ty pv tv w ho.2 h ht hl)
  | .two c s t, l, ty, pv, tv, w, ho, h, ht, hl => by
    have hg := isB_ge ho.1
    obtain ⟨b, x, y, hv, hb, hh, hx, hy⟩ := h
    cases hv
    exact app_two B b l c s t tv x y w (by omega) (by omega) ht (by simp [Tm.txt] at hl; omega) hb hh hx hy (fun l ty pv tv w h ht hl => app_any B s l ty pv tv w ho.2.1 h ht hl) (fun l ty pv tv w h ht hl => app_any B t l ty pv tv w ho.2.2 h ht hl)
  | .loop c i s t, l, ty, pv, tv, w, ho, h, ht, hl => by
    have hg := isL_ge ho.2.1
    obtain ⟨b, x, y, hv, hb, hh, hx, hy⟩ := h
    cases hv
    exact app_loop B b l c i s t tv x y w ho.1 (by omega) (by omega) ht (by simp [Tm.txt] at hl; omega) hb hh hx hy (fun l ty pv tv w h ht hl => app_any B s l ty pv tv w ho.2.2.1 h ht hl) (fun l ty pv tv w h ht hl => app_any B t l ty pv tv w ho.2.2.2 h ht hl)

/-- A term's text as a string. -/
def bytesOf (l : List UInt8) : ByteArray := ⟨l.toArray⟩
theorem conv_txt {w : World} {B c : Nat} {A : Option Addr} {l : List UInt8} (h : Txt w B (.slice A l.length c) l) : (convert 27 9 (.slice A l.length c)).run Try.prog w = .ok (.string (bytesOf l)) w := by
  obtain ⟨s, hs⟩ : ∃ s : ByteArray, s = bytesOf l := ⟨_, rfl⟩
  have e : s.size = l.length := by rw [hs]; simp [bytesOf, ByteArray.size]
  have hat : ∀ i (hi : i < s.size), l[i]? = some s[i] := fun i hi => by
    have hil : i < l.length := by omega
    subst hs
    rw [List.getElem?_eq_getElem hil]
    rfl
  rcases h.1.2 with ⟨hv, hn⟩ | ⟨g, cap, cur, hv, _⟩
  · obtain rfl : l = [] := List.length_eq_zero_iff.1 hn
    simp only [Value.slice.injEq] at hv
    obtain ⟨rfl, _, rfl⟩ := hv
    rw [run_convert_bytes_nil (P := Try.prog) (w := w) 27 5 Try.underlying27 Try.underlying5 _ 0 9 Try.underlying9]
    rfl
  · cases hv
    have hb : Lib.Bytes w g 0 s := fun i hi => by
      have := h.1.cellAt i (by omega)
      rw [Nat.zero_add, this, Lib.byteCells, List.getElem?_map, hat i hi]
      rfl
    have := Lib.run_convert_whole (P := Try.prog) w 27 5 9 Try.underlying27 Try.underlying5 Try.underlying9 g 0 s hb c
    rw [e, hs] at this
    exact this

set_option maxRecDepth 100000 in
set_option maxHeartbeats 1000000 in
theorem textof_any (t : Tm) (S : Nat → Prop) (ty : TypeId) (pv : Value) (w : World) (ho : t.Ok) (h : PT w S t (.iface ty pv)) (hl : t.txt.length ≤ 50000000) :
    Calls Try.prog 82 #[.iface ty pv] w fun e w' => e = .returned (.string (bytesOf t.txt)) ∧ w.grownBy w' none := by
  have hp : PT w (fun b => b < w.heap.size) t (.iface ty pv) := h.keep (fun _ _ _ => rfl) (fun b _ hb => hb) _ _
  have hm := method_app h
  have hrun := fun tv => run_app t pv tv
  have HC := Lib.hid (app_any w.heap.size t [] ty pv (.slice none 0 0) w ho hp ⟨⟨rfl, .inl ⟨rfl, rfl⟩⟩, Nat.le_refl _⟩ (by simpa using hl))
  clear h hp
  go_enter Try.func82, Try.ntmps82
  go_wp2_with fail
  refine HC.out.mono ?_
  rintro e w1 ⟨v1, rfl, ht1, hb1⟩
  obtain ⟨A, c, rfl⟩ := ht1.form
  have hcv := conv_txt ht1
  rw [List.nil_append] at hcv
  have HB := Lib.hid hb1
  clear hb1 ht1 hm hrun
  go_wp2_with fail
  go_ret
  exact ⟨rfl, ⟨HB.out.os, HB.out.tape, HB.out.output, HB.out.size, fun k hk _ => HB.out.block k hk⟩⟩

end Go.Proofs.Ytmofoeljajdhmaa
