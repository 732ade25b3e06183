/-
  What this text proves: one note is cut, and played, for a reel. Conditions: as stated in each.
-/
import Derived.Test.YtnkahanapbfhkaaVn0
set_option linter.unusedVariables false
set_option linter.unusedSimpArgs false

namespace Go.Pv
theorem reel_len {co g : Int} (hc : 1 ≤ co ∧ co ≤ 99) (hg : 0 ≤ g ∧ g ≤ 40) : 1000 * co ≤ lenOf co g 1000 := by
  unfold lenOf
  omega
theorem reel_wo {co ti lo hi g : Int} (hr : (1 ≤ ti ∧ ti ≤ 20) ∧ (ti ≤ co ∧ co ≤ 99) ∧ (0 ≤ lo ∧ lo ≤ 29) ∧ lo ≤ hi ∧ hi ≤ lo + 5) (hg : lo ≤ g ∧ g ≤ hi) : woErr co ti lo hi g = 0 := if_pos ⟨by unfold spOk; omega, hg⟩
theorem ct_one {co ti lo hi g T : Int} (h : woErr co ti lo hi g = 0) (hT : 0 ≤ T ∧ T ≤ 1000 * ti) : ctErr co ti lo hi g [T] = 0 ∧ ctL co ti lo hi g [T] = [plOf co ti g T] := by
  have e : ctErr co ti lo hi g [T] = 0 := by
    unfold ctErr
    rw [if_pos h, if_neg (by simp)]
    simp [noteErr, tmErr, hT]
  exact ⟨e, if_pos e⟩
theorem py_one {co ti lo hi g P : Int} (h : woErr co ti lo hi g = 0) (hP : 0 ≤ P ∧ P ≤ lenOf co g 1000) : pyErr co ti lo hi g [P] = 0 ∧ pyL co ti lo hi g [P] = [arrOf co ti g P] := by
  have e : pyErr co ti lo hi g [P] = 0 := by
    unfold pyErr
    rw [if_pos h, if_neg (by simp)]
    have : plErr co g P = 0 := by
      unfold plErr
      rw [if_neg (by omega), if_neg (by omega)]
    simp [noteErr, this]
  exact ⟨e, if_pos e⟩
end Go.Pv
namespace Go.Proofs.Ytnkahanapbfhkaa
open Go.Pv Go.RowKit
set_option maxHeartbeats 8000000
variable (co ti lo hi g T : Int)
theorem cut1_any (co ti lo hi g T : Int) (b : Nat) (w : World) (hr : (1 ≤ ti ∧ ti ≤ 20) ∧ (ti ≤ co ∧ co ≤ 99) ∧ (0 ≤ lo ∧ lo ≤ 29) ∧ lo ≤ hi ∧ hi ≤ lo + 5) (hg : lo ≤ g ∧ g ≤ hi) (hT : 0 ≤ T ∧ T ≤ 1000 * ti) (hb : Bx w b [.int .i64 T] 3) :
    Ret Try.prog 28 [.agg #[.int .i64 co, .int .i64 ti, .int .i64 lo, .int .i64 hi], .int .i64 g, .slice (some ⟨b, 0, none⟩) 1 1] w fun r w' => ∃ u, r = .tuple #[u, .int .i64 0] ∧ Ints w' u [plOf co ti g T] := by
  have h := Cut_any co ti lo hi g _ [T] w (IntsK.built (xs := [T]) hb rfl (by simp))
  rw [(ct_one (reel_wo hr hg) hT).1, (ct_one (reel_wo hr hg) hT).2] at h
  exact h
theorem play1_any (co ti lo hi g P : Int) (b : Nat) (w : World) (hr : (1 ≤ ti ∧ ti ≤ 20) ∧ (ti ≤ co ∧ co ≤ 99) ∧ (0 ≤ lo ∧ lo ≤ 29) ∧ lo ≤ hi ∧ hi ≤ lo + 5) (hg : lo ≤ g ∧ g ≤ hi) (hP : 0 ≤ P ∧ P ≤ lenOf co g 1000) (hb : Bx w b [.int .i64 P] 3) :
    Ret Try.prog 30 [.agg #[.int .i64 co, .int .i64 ti, .int .i64 lo, .int .i64 hi], .int .i64 g, .slice (some ⟨b, 0, none⟩) 1 1] w fun r w' => ∃ u, r = .tuple #[u, .int .i64 0] ∧ Ints w' u [arrOf co ti g P] := by
  have h := Play_any co ti lo hi g _ [P] w (IntsK.built (xs := [P]) hb rfl (by simp))
  rw [(py_one (reel_wo hr hg) hP).1, (py_one (reel_wo hr hg) hP).2] at h
  exact h
theorem place_ok (co ti lo hi T : Int) (w : World) (hr : (1 ≤ ti ∧ ti ≤ 20) ∧ (ti ≤ co ∧ co ≤ 99) ∧ (0 ≤ lo ∧ lo ≤ 29) ∧ lo ≤ hi ∧ hi ≤ lo + 5) (hT : 0 ≤ T ∧ T ≤ 1000 * ti) :
    Ret Try.prog 19 [.agg #[.int .i64 co, .int .i64 ti, .int .i64 lo, .int .i64 hi], .int .i64 T] w fun r _ => r = .tuple #[.agg #[.int .i64 (plOf co ti lo T), .int .i64 (plOf co ti hi T)], .int .i64 0] := by
  have h := Place_any co ti lo hi T w
  have e1 : ptErr co ti lo hi T = 0 := if_pos ⟨by unfold spOk; omega, hT⟩
  have e2 : ptSp co ti lo hi T = (plOf co ti lo T, plOf co ti hi T) := if_pos e1
  rw [e1, e2] at h
  exact h
theorem length_ok (co ti lo hi n : Int) (w : World) (hr : (1 ≤ ti ∧ ti ≤ 20) ∧ (ti ≤ co ∧ co ≤ 99) ∧ (0 ≤ lo ∧ lo ≤ 40) ∧ lo ≤ hi ∧ hi ≤ 40) (hn : 0 ≤ n ∧ n ≤ 1000) :
    Ret Try.prog 16 [.agg #[.int .i64 co, .int .i64 ti, .int .i64 lo, .int .i64 hi], .int .i64 n] w fun r _ => r = .tuple #[.agg #[.int .i64 (lenOf co lo n), .int .i64 (lenOf co hi n)], .int .i64 0] := by
  have h := Length_any co ti lo hi n w
  have e1 : lnErr co ti lo hi n = 0 := if_pos ⟨by unfold spOk; omega, hn⟩
  have e2 : lnSp co ti lo hi n = (lenOf co lo n, lenOf co hi n) := if_pos e1
  rw [e1, e2] at h
  exact h
theorem arrival_ok (co ti lo hi P : Int) (w : World) (hr : (1 ≤ ti ∧ ti ≤ 20) ∧ (ti ≤ co ∧ co ≤ 99) ∧ (0 ≤ lo ∧ lo ≤ 29) ∧ lo ≤ hi ∧ hi ≤ lo + 5) (hP : 0 ≤ P ∧ P ≤ lenOf co lo 1000) :
    Ret Try.prog 24 [.agg #[.int .i64 co, .int .i64 ti, .int .i64 lo, .int .i64 hi], .int .i64 P] w fun r _ => r = .tuple #[.agg #[.int .i64 (arrOf co ti hi P), .int .i64 (arrOf co ti lo P)], .int .i64 0] := by
  have h := Arrival_any co ti lo hi P w
  have e1 : arErr co ti lo hi P = 0 := by
    unfold arErr
    rw [if_pos (by unfold spOk; omega)]
    unfold plErr
    rw [if_neg (by omega), if_neg (by omega)]
  have e2 : arSp co ti lo hi P = (arrOf co ti hi P, arrOf co ti lo P) := if_pos e1
  rw [e1, e2] at h
  exact h
end Go.Proofs.Ytnkahanapbfhkaa
