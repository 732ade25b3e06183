/-
  What this text proves: what Clash and Verify answer where no offset is possible, and for lists of positions in ascending order.
-/
import Derived.Test.YtbcbfeeidmggpaaOch
import Derived.Test.YtbcbfeeidmggpaaMgh
set_option linter.unusedVariables false
set_option linter.unusedSimpArgs false

namespace Go.Proofs.Ytbcbfeeidmggpaa
open Go.Pv Go.RowKit
set_option maxHeartbeats 4000000

theorem clash_good (off c s : Int) (v : Value) (xss : List (List Int)) (w : World) (h : Intss w v xss) (hc : chk off xss = 0) (hcc : 0 ≤ c ∧ c < xss.length) (hs : 1 ≤ s ∧ s ≤ 1000) (hno : offL off s (xss.getD c.toNat []) = []) : Ret Try.prog 9 [.agg #[.int .i64 off, v], .int .i64 c, .int .i64 s] w fun r w' =>
    ∃ u, r = .tuple #[u, .int .i64 0] ∧ Ints w' u (clashL (ringL off s (xss.getD c.toNat [])) s) := by
  have e0 := ask_ok (off := off) (xss := xss) (c := c) (s := s) hc (by omega) (by omega)
  have hi := ask_inv e0
  have hb := clash_best (off := off) (s := s) (xs := xss.getD c.toNat []) (by omega) (by omega) ⟨by omega, by omega⟩ hno
  have e : clErr off xss c s = 0 := by
    unfold clErr
    rw [if_neg (by omega), if_neg (by rw [hno]; simp)]
  refine (stepClash_any off c s v xss w h (fun _ => hb.1)).mono ?_
  rw [e, if_pos rfl]
  rintro r w' - ⟨u, rfl, hu⟩
  exact ⟨u, rfl, hu⟩
theorem verify_iff (off c s : Int) (v hv : Value) (xss : List (List Int)) (hs : List Int) (w : World) (h : Intss w v xss) (hh : Ints w hv hs) (hc : chk off xss = 0) (hcc : 0 ≤ c ∧ c < xss.length) (hss : 1 ≤ s ∧ s ≤ 1000)
    (h0 : hs.length ≠ 0) (hin : ∀ x ∈ hs, 0 ≤ x ∧ x < (xss.getD c.toNat []).length) (hp : hs.Pairwise (· < ·)) :
    Ret Try.prog 12 [.agg #[.int .i64 off, v], .int .i64 c, .int .i64 s, hv] w fun r _ => r = .int .i64 (if offL off s (pickL (xss.getD c.toNat []) hs) ≠ [] then 14 else 0) := by
  refine (verify_any off c s v hv xss hs w h hh).mono ?_
  rintro r w' - rfl
  have e1 := ask_ok (off := off) (xss := xss) (c := c) (s := s) hc (by omega) (by omega)
  have e2 := hErr_of h0 hin hp
  unfold verErr
  rw [if_neg (by omega), if_neg (by omega)]
/-- The clash that is returned is accepted. -/
theorem verify_clash (off c s : Int) (v hv : Value) (xss : List (List Int)) (w : World) (h : Intss w v xss) (hc : chk off xss = 0) (hcc : 0 ≤ c ∧ c < xss.length) (hss : 1 ≤ s ∧ s ≤ 1000) (hno : offL off s (xss.getD c.toNat []) = [])
    (hh : Ints w hv (clashL (ringL off s (xss.getD c.toNat [])) s)) : Ret Try.prog 12 [.agg #[.int .i64 off, v], .int .i64 c, .int .i64 s, hv] w fun r _ => r = .int .i64 0 := by
  have e0 := ask_ok (off := off) (xss := xss) (c := c) (s := s) hc (by omega) (by omega)
  have hi := ask_inv e0
  obtain ⟨-, b2, b3, b4, b5, -⟩ := clash_best (off := off) (s := s) (xs := xss.getD c.toNat []) (by omega) (by omega) ⟨by omega, by omega⟩ hno
  refine (verify_iff off c s v hv xss _ w h hh hc hcc hss b2 b3 b4).mono ?_
  rintro r w' - rfl
  rw [b5]; simp
end Go.Proofs.Ytbcbfeeidmggpaa
