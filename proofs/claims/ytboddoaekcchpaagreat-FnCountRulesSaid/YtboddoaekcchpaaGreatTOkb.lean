/- The signs of terms are bytes. -/
import Derived.Test.YtboddoaekcchpaaGreatTmD
namespace Go.Proofs.YtboddoaekcchpaaGreat

theorem vb {c : Int} (h : isV c = true) : 0 ≤ c ∧ c ≤ 255 := by
  unfold isV at h
  simp only [decide_eq_true_eq] at h
  omega
theorem lb {c : Int} (h : isL c = true) : 0 ≤ c ∧ c ≤ 255 := by
  unfold isL at h
  simp only [decide_eq_true_eq] at h
  omega
theorem pb {c : Int} (h : isP c = true) : 0 ≤ c ∧ c ≤ 255 := by
  unfold isP at h
  simp only [decide_eq_true_eq] at h
  omega

end Go.Proofs.YtboddoaekcchpaaGreat
