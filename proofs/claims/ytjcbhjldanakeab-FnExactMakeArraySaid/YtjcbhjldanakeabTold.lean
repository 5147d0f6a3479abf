/- What l1Told of the model does. -/
import Derived.Test.YtjcbhjldanakeabSText
namespace Go.Proofs.Ytjcbhjldanakeab
open Go.RowKit

/-- How l1Told ends. -/
def ToldPost (l : List UInt8) (w : World) (e : Ending) (w' : World) : Prop := w.grownBy w' none ∧ ∃ u : ByteArray, e = .returned (.tuple #[.string u, .bool (decide (l.length ≤ 400))]) ∧ u.data.toList = if l.length ≤ 400 then l else []

set_option maxHeartbeats 400000 in
theorem told_any (S : Nat → Prop) (d : Nat) (n : Int) (t : T d) (m : Int) (A : Option Addr) (k c : Nat) (w : World) (hn : n = d) (hd : d ≤ 1000) (h : SNd w S d t (m, .slice A k c)) (ht : (text d t).length ≤ 1000000000) :
    Calls Try.prog 51 #[.agg #[.int .i64 m, .slice A k c], .int .i64 n] w (ToldPost (text d t) w) := by
  have h1 : SNd (w.alloc (.cells #[.int .i64 m, .slice A k c] 63)) S d t (m, .slice A k c) := SNd.keep (fun b _ hb => Below.heap_alloc w _ b hb) (fun b hb _ => hb) d t _ h
  have HT := Lib.hid (stext_any S d n t m A k c _ hn hd h1 ht)
  have HL := Lib.hid ht
  clear h h1 hn hd ht
  go_enter Try.func51, Try.ntmps51
  go_wp2_with fail
  refine HT.out.mono ?_
  rintro e w1 ⟨⟨s, rfl, hs⟩, hg⟩
  have HG := Lib.hid ((World.grownBy_alloc w (.cells #[.int .i64 m, .slice A k c] 63) none).trans hg)
  have hsz : s.size = (text d t).length := by rw [← hs, Array.length_toList]; rfl
  have HS := Lib.hid hs
  have HSZ := Lib.hid hsz
  clear hs hg hsz
  by_cases hb : 400 < s.size
  · have hd2 : decide (400 < (s.size : Int)) = true := decide_eq_true (by omega)
    go_wp2_with fail
    go_ret2
    have h2 := HSZ.out
    refine ⟨HG.out, ⟨#[]⟩, ?_, ?_⟩
    · rw [decide_eq_false (by omega)]; rfl
    · rw [if_neg (by omega)]
  · have hd2 : decide (400 < (s.size : Int)) = false := decide_eq_false (by omega)
    go_wp2_with fail
    go_ret2
    have h2 := HSZ.out
    refine ⟨HG.out, s, ?_, ?_⟩
    · rw [decide_eq_true (by omega)]; rfl
    · rw [if_pos (by omega)]; exact HS.out

end Go.Proofs.Ytjcbhjldanakeab
