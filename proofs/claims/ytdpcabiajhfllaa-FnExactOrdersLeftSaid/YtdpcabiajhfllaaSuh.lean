import Derived.Test.YtdpcabiajhfllaaSug
import Derived.Test.YtdpcabiajhfllaaPer
namespace Go.Proofs.Ytdpcabiajhfllaa.Rhy
open Go.RowKit

theorem gapZ_nil {s : Int} {xs : List Int} {t : Int} {ys : List Int} (h : dirB s xs t ys = true) : tilB s xs t ys = decide ((gapB s xs t ys).length = 0) := by
  have hd : (Ok s xs ∧ Ok t ys ∧ s = t) ∧ dirC s xs ys := by
    by_cases q : (Ok s xs ∧ Ok t ys ∧ s = t) ∧ dirC s xs ys
    · exact q
    · unfold dirB at h; rw [cB_no q] at h; cases h
  have hn := hd.1.1.1
  have e : gapB s xs t ys = gapZ s xs ys := cZ_yes hd.1
  rw [e]
  by_cases hg : gapZ s xs ys = []
  · rw [hg]
    exact (cB_yes ⟨hd.1, (til_iff (by omega)).2 ⟨hd.2, hg⟩⟩).trans (by simp)
  · rw [decide_eq_false (by rw [List.length_eq_zero_iff]; exact hg)]
    exact cB_no fun q => hg ((til_iff (by omega)).1 q.2).2
theorem tilB_dir {s : Int} {xs : List Int} {t : Int} {ys : List Int} (h : dirB s xs t ys = false) : tilB s xs t ys = false := by
  refine cB_no fun q => ?_
  have : dirB s xs t ys = true := cB_yes ⟨q.1, ((til_iff (by have := q.1.1.1; omega)).1 q.2).1⟩
  rw [h] at this
  cases this


end Go.Proofs.Ytdpcabiajhfllaa.Rhy
