/- Plain pieces: what a text that was read looks like; what laid rows read as. -/
import Derived.Test.YtachjodnhgmoiaaLayMem
import Derived.Test.YtachjodnhgmoiaaAside
import Derived.Test.YtachjodnhgmoiaaLvText
import Derived.Test.YtachjodnhgmoiaaNest
namespace Go.Proofs.Ytachjodnhgmoiaa
open Go.RowKit

theorem readN_text {s : ByteArray} {d : Nat} {t : T d} (h : readN s d = some t) : s.data.toList = text d t := by
  unfold readN at h
  split at h
  · cases h
  · rename_i t' q hn
    split at h
    · rename_i hq
      cases h
      have := sub_node s d 0 _ q hn
      rw [hq, sub_all] at this
      exact this
    · cases h
theorem readN_short {s : ByteArray} {d : Nat} {t : T d} (h : readN s d = some t) (hs : s.size ≤ 400) : (text d t).length ≤ 1000000 := by
  rw [← readN_text h, Array.length_toList]
  have : s.data.size = s.size := rfl
  omega

theorem gr_below {w u w' : World} (h : w.grownBy u none) (hb : Below w.heap.size u w') : w.grownBy w' none :=
  ⟨hb.os.trans h.os, hb.tape.trans h.tape, hb.output.trans h.output, Nat.le_trans h.size hb.size, fun k hk hne => (hb.block k hk).trans (h.block k hk hne)⟩

theorem LaidAt.reads {w : World} {base g c : Nat} {dv : Value} {LL : List (List Int)} {D : List Int} (h : LaidAt w base g c dv LL D) :
    (∃ A8 c8, dv = .slice A8 D.length c8 ∧ Ints w A8 D ∧ D.length ≤ c8 ∧ (A8 = none → c8 = 0)) ∧ Rws w (some ⟨g, 0, none⟩) LL ∧
    ∀ (w' : World) (j : Nat) (L : List Int), w.grownBy w' none → LL[j]? = some L → ∀ b off, some (⟨g, 0, none⟩ : Addr) = some ⟨b, off, none⟩ → ∃ Aj cj, w'.cell? ⟨b, off + j, none⟩ = some (.slice Aj L.length cj) ∧ Ints w' Aj L ∧ (Aj = none → cj = 0) ∧ L.length ≤ cj := by
  obtain ⟨vs, ho, hr⟩ := h
  have hlen : vs.length = LL.length := by have := ho.1; omega
  have hrow : ∀ (i : Nat) (L : List Int), LL[i]? = some L → ∃ v, vs[i]? = some v ∧ w.ownsRow base 3 1 v L.length (L.map (Value.int .i64)) := fun i L hL => by
    have hi := (List.getElem?_eq_some_iff.1 hL).1
    exact ⟨vs[i], List.getElem?_eq_getElem (by omega), hr.2.1 i vs[i] L (by rw [List.getElem?_append_left (by omega)]; exact List.getElem?_eq_getElem (by omega)) (by rw [List.getElem?_append_left hi]; exact hL)⟩
  refine ⟨?_, ?_, ?_⟩
  · have hd := hr.2.1 vs.length dv D (by simp) (by rw [hlen]; simp)
    obtain ⟨A8, m8, c8, rfl⟩ := own_form hd
    obtain ⟨h1, h2, h3, h4⟩ := row_reads hd
    subst h1
    exact ⟨A8, c8, rfl, h2, h3, h4⟩
  · refine rws_own ho (fun i L hL => ?_)
    obtain ⟨v, hv, hov⟩ := hrow i L hL
    obtain ⟨A8, m8, c8, rfl⟩ := own_form hov
    obtain ⟨h1, h2, h3, h4⟩ := row_reads hov
    subst h1
    exact ⟨_, hv, A8, c8, rfl, h3, fun _ => hov⟩
  · intro w' j L hg hL b off hbo
    cases hbo
    obtain ⟨v, hv, hov⟩ := hrow j L hL
    obtain ⟨A8, m8, c8, rfl⟩ := own_form hov
    obtain ⟨h1, h2, h3, h4⟩ := row_reads hov
    subst h1
    have hc := ho.cells (g := g) rfl j _ hv
    rw [addr_flat] at hc
    exact ⟨A8, c8, hg.cell hc (by simp), h2.grown hg (by simp), h4, h3⟩

end Go.Proofs.Ytachjodnhgmoiaa
