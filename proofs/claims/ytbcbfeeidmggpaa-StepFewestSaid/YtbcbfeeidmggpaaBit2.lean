/-
  What this text proves: the shortest list without a common offset is as long as the clash.
-/
import Derived.Test.YtbcbfeeidmggpaaBit
import Derived.Test.YtbcbfeeidmggpaaMfc
set_option linter.unusedVariables false
set_option linter.unusedSimpArgs false

namespace Go.Proofs.Ytbcbfeeidmggpaa
open Go.Pv
/-- A list without a common offset. -/
theorem noCommon_of {off s : Int} {xs H : List Int} (hs1 : 1 ≤ s) (hin : ∀ x ∈ H, 0 ≤ x ∧ x < xs.length) (h : offL off s (pickL xs H) = []) : NoCommon off s xs (H.map Int.toNat) := by
  refine ⟨fun i hi => ?_, fun o h1 h2 => ?_⟩
  · obtain ⟨x, hx, rfl⟩ := List.mem_map.1 hi
    have := hin x hx; omega
  · refine Classical.byContradiction fun hc => ?_
    have hf : fitsL off s o (pickL xs H) := by
      intro j hj
      rw [pickL_len] at hj
      rw [pickL_get _ _ _ hj]
      refine Classical.byContradiction fun hn => hc ⟨(H.getD j 0).toNat, List.mem_map.2 ⟨H.getD j 0, mem_getD hj, rfl⟩, hn⟩
    have := (mem_offL (off := off) (xs := pickL xs H) (by omega)).2 ⟨h1, h2, hf⟩
    rw [h] at this; cases this
theorem clOut_none {off s : Int} {xs : List Int} {m : Nat} {out : List Int} (hs1 : 1 ≤ s) (h : ClOut off s xs m out) (ho : offL off s xs ≠ []) : out = [] := by
  refine Classical.byContradiction fun hn => ?_
  obtain ⟨a, b, c, d⟩ := h
  obtain ⟨o, ho⟩ := List.exists_mem_of_ne_nil _ ho
  obtain ⟨h1, h2, h3⟩ := (mem_offL (by omega)).1 ho
  have := (mem_offL (off := off) (s := s) (xs := pickL xs out) (by omega)).2 ⟨h1, h2, fits_pick h3 rfl a⟩
  rw [c hn] at this; cases this
theorem clOut_best {off s : Int} {xs : List Int} {out : List Int} (hoff : 0 ≤ off) (hs1 : 1 ≤ s) (hl : 1 ≤ xs.length ∧ xs.length ≤ 1000) (h : ClOut off s xs (2 ^ xs.length) out) (ho : offL off s xs = []) :
    out.length = (clashL (ringL off s xs) s).length ∧ out.length ≠ 0 := by
  obtain ⟨a, b, c, d⟩ := h
  obtain ⟨-, b2, b3, b4, b5, b6⟩ := clash_best hoff hs1 hl ho
  obtain ⟨set, k1, k2⟩ := bitsL_sur xs.length _ b4 b3
  have hset : 1 ≤ set := by
    refine Classical.byContradiction fun hn => b2 ?_
    have : set = 0 := by omega
    subst this
    rw [← k2]
    have hz : ∀ k : Nat, bitsL k 0 = [] := fun k => by induction k with
      | zero => rfl
      | succ k ih => simp only [bitsL, ih, Nat.zero_testBit]; rfl
    rw [hz]; rfl
  have h1 := d set hset k1 (by rw [k2]; exact b5)
  rw [k2] at h1
  have h2 := b6 _ (noCommon_of hs1 a (c h1.1))
  rw [List.length_map] at h2
  exact ⟨by omega, by omega⟩
end Go.Proofs.Ytbcbfeeidmggpaa
