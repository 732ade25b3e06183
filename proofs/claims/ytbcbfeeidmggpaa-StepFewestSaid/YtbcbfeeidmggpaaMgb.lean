/-
  What this text proves: what made leaves, its base named; a list of the family with one element changed.
-/
import Derived.Test.YtbcbfeeidmggpaaMgh
set_option linter.unusedVariables false
set_option linter.unusedSimpArgs false

namespace Go.Pv
open Go.RowKit
theorem setF_len {C2 : Nat → List Int} {i k : Nat} {v : Int} (c : Nat) : (setF C2 i ((C2 i).set k v) c).length = (C2 c).length := by
  unfold setF; split
  · next h => rw [h]; simp
  · rfl
end Go.Pv
namespace Go.Proofs.Ytbcbfeeidmggpaa
open Go.Pv Go.RowKit
set_option maxHeartbeats 4000000

theorem made_goodB (st of o0 o1 o2 : Int) (hv : Value) (hs : List (Int × Int)) (w : World) (h : Prs8 w hv hs) (hb : Bytes5 st of o0 o1 o2 hs) :
    Ret Try.prog 13 [.agg #[.int .u8 st, .int .u8 of, .int .u8 o0, .int .u8 o1, .int .u8 o2, hv]] w fun r w' => ∃ s off n O C R x rr o cv rv base, (1 ≤ s ∧ s ≤ 40) ∧ (0 ≤ off ∧ off ≤ 6) ∧ MadeOk s off n O C R ∧ r = .tuple #[.agg #[.int .i64 off, x], .int .i64 s, o, rr] ∧ base = w.heap.size ∧
      Fam base w' (mkE 25 3 x ((List.range n).map cv) rr ((List.range n).map rv) o O cv C rv R) := by
  refine (made_good st of o0 o1 o2 hv hs w h hb).mono ?_
  rintro r w' - ⟨s, off, n, O, C, R, x, rr, o, cv, rv, h1, h2, h3, rfl, hF⟩
  exact ⟨s, off, n, O, C, R, x, rr, o, cv, rv, w.heap.size, h1, h2, h3, rfl, rfl, hF⟩
end Go.Proofs.Ytbcbfeeidmggpaa
