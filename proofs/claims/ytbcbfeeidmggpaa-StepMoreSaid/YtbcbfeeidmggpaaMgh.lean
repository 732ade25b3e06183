/-
  What this text proves: more calls that the laws on masters share (Rows, Clash, Verify, has); shifts and 'and'.
-/
import Derived.Test.YtbcbfeeidmggpaaMg
import Derived.Test.YtbcbfeeidmggpaaG
import Derived.Test.YtbcbfeeidmggpaaO
import Derived.Test.YtbcbfeeidmggpaaM
set_option linter.unusedVariables false
set_option linter.unusedSimpArgs false

namespace Go.Pv
open Go.RowKit
section
variable {P : Program} {l : St} {w : World} {od : Option Nat} {ty : TypeId} {pos : String} {af : Array Edge}
theorem r_shr {x y : Operand} {T T2 : TypeId} {k k2 : IntKind} {m n : Int} (hx : ev l x = .int k m) (hy : ev l y = .int k2 n) (hn : 0 ≤ n) : Runs P ⟨od, .binOp .shr T x y T2, ty, pos, af, none⟩ l w (.int k (m / 2 ^ min n.toNat k.bits)) :=
  by simp [Runs, execOp, hx, hy, run_guard_int, binOp, Go.shift_shr_any k k2 m n hn]
theorem r_and {x y : Operand} {T T2 : TypeId} {k : IntKind} {m n : Int} (hx : ev l x = .int k m) (hy : ev l y = .int k n) : Runs P ⟨od, .binOp .and T x y T2, ty, pos, af, none⟩ l w (.int k (bits .and k m n)) :=
  r_bin hx hy (by rw [Go.binOp_and]; rfl)
end
theorem hErrF_of {n : Int} : ∀ (hs : List Int) (b : Int), (∀ x ∈ hs, 0 ≤ x ∧ x < n ∧ b < x) → hs.Pairwise (· < ·) → hErrF n b hs = 0
  | [], _, _, _ => rfl
  | x :: r, b, h, hp => by
    have h1 := h x (by simp)
    rw [List.pairwise_cons] at hp
    simp only [hErrF]
    rw [if_neg (by omega), if_neg (by omega)]
    exact hErrF_of r x (fun y hy => by have := h y (by simp [hy]); have := hp.1 y hy; omega) hp.2
theorem hErr_of {n : Int} {hs : List Int} (h0 : hs.length ≠ 0) (h : ∀ x ∈ hs, 0 ≤ x ∧ x < n) (hp : hs.Pairwise (· < ·)) : hErr n hs = 0 := by
  unfold hErr
  rw [if_neg h0]
  exact hErrF_of hs (-1) (fun x hx => by have := h x hx; omega) hp
theorem rowsL_get {off s o : Int} {xs : List Int} {j : Nat} (hj : j < xs.length) : (rowsL off s o xs).getD j (0, 0) = rowP off s o (xs.getD j 0) := by simp [rowsL, hj]
theorem fits_pick {off s o n : Int} {xs hs : List Int} (h : fitsL off s o xs) (hn : n = xs.length) (hh : ∀ x ∈ hs, 0 ≤ x ∧ x < n) : fitsL off s o (pickL xs hs) := by
  intro j hj
  rw [pickL_len] at hj
  rw [pickL_get _ _ _ hj]
  have := hh _ (mem_getD hj)
  exact h _ (by omega)
end Go.Pv
namespace Go.Proofs.Ytbcbfeeidmggpaa
open Go.Pv Go.RowKit
set_option maxHeartbeats 4000000

theorem has_yes (v : Value) (xs : List Int) (n : Int) (w : World) (h : Ints w v xs) (hm : n ∈ xs) : Ret Try.prog 17 [v, .int .i64 n] w fun r _ => r = .bool true :=
  (has_any v xs n w h).mono fun r w' _ e => by rw [e]; simp [hm]
theorem rows_good (off c s o : Int) (v : Value) (xss : List (List Int)) (w : World) (h : Intss w v xss) (hc : chk off xss = 0) (hcc : 0 ≤ c ∧ c < xss.length) (hs : 1 ≤ s ∧ s ≤ 1000) (ho : 0 ≤ o ∧ o < s) (hf : fitsL off s o (xss.getD c.toNat [])) : Ret Try.prog 20 [.agg #[.int .i64 off, v], .int .i64 c, .int .i64 s, .int .i64 o] w fun r w' =>
    ∃ u, r = .tuple #[u, .int .i64 0] ∧ Prs w' u (rowsL off s o (xss.getD c.toNat [])) := by
  refine (rows_any off c s o v xss w h).mono ?_
  have e : rowErr off xss c s o = 0 := rowErr_ok (ask_ok hc (by omega) (by omega)) (by omega) hf
  rw [e, if_pos rfl]
  rintro r w' - ⟨u, rfl, hu⟩
  exact ⟨u, rfl, hu⟩
theorem clash_none (off c s : Int) (v : Value) (xss : List (List Int)) (w : World) (h : Intss w v xss) (hc : chk off xss = 0) (hcc : 0 ≤ c ∧ c < xss.length) (hs : 1 ≤ s ∧ s ≤ 1000) {o : Int} (ho : 0 ≤ o ∧ o < s) (hf : fitsL off s o (xss.getD c.toNat [])) : Ret Try.prog 9 [.agg #[.int .i64 off, v], .int .i64 c, .int .i64 s] w fun r w' =>
    ∃ u, r = .tuple #[u, .int .i64 8] ∧ Ints w' u [] := by
  have hm := (mem_offL (off := off) (s := s) (xs := xss.getD c.toNat []) (by omega)).2 ⟨ho.1, ho.2, hf⟩
  have e : clErr off xss c s = 8 := by
    unfold clErr
    rw [if_neg (by have := ask_ok (off := off) (xss := xss) (c := c) (s := s) hc (by omega) (by omega); omega), if_pos (fun e => by rw [e] at hm; cases hm)]
  refine (stepClash_any off c s v xss w h (fun h0 => by omega)).mono ?_
  rw [e]
  rintro r w' - ⟨u, rfl, hu⟩
  exact ⟨u, rfl, hu⟩
theorem verify_proof (off c s : Int) (v hv : Value) (xss : List (List Int)) (hs : List Int) (w : World) (h : Intss w v xss) (hh : Ints w hv hs) (hc : chk off xss = 0) (hcc : 0 ≤ c ∧ c < xss.length) (hss : 1 ≤ s ∧ s ≤ 1000) {o : Int} (ho : 0 ≤ o ∧ o < s) (hf : fitsL off s o (xss.getD c.toNat []))
    (h0 : hs.length ≠ 0) (hin : ∀ x ∈ hs, 0 ≤ x ∧ x < (xss.getD c.toNat []).length) (hp : hs.Pairwise (· < ·)) :
    Ret Try.prog 12 [.agg #[.int .i64 off, v], .int .i64 c, .int .i64 s, hv] w fun r _ => r = .int .i64 14 := by
  refine (verify_any off c s v hv xss hs w h hh).mono ?_
  rintro r w' - rfl
  have hm := (mem_offL (off := off) (s := s) (xs := pickL (xss.getD c.toNat []) hs) (by omega)).2 ⟨ho.1, ho.2, fits_pick hf rfl hin⟩
  have e1 := ask_ok (off := off) (xss := xss) (c := c) (s := s) hc (by omega) (by omega)
  have e2 := hErr_of h0 hin hp
  unfold verErr
  rw [if_neg (by omega), if_neg (by omega), if_pos (fun e => by rw [e] at hm; cases hm)]
end Go.Proofs.Ytbcbfeeidmggpaa
