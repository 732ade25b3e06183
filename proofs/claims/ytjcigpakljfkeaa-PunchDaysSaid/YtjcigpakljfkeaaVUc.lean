/-
  What this text proves: a row of slots with their numbers, sorted: the order in which slots get their passes. Conditions: the row is the call's own.
-/
import Derived.Test.YtjcigpakljfkeaaSh
import Derived.Test.YtjcigpakljfkeaaVUb
import Derived.Test.YtjcigpakljfkeaaGn
set_option linter.unusedVariables false
set_option linter.unusedSimpArgs false
namespace Go.Pv
open Go.RowKit Go.Sort Go.Proofs
section
variable {α : Type} [Inhabited α] {f : α → List Value} {n : Nat}
theorem flat_eq (hf : ∀ x, (f x).length = n) (hn : 0 < n) (xs : List α) : (flatK f n xs.toArray).toList = xs.flatMap f := by
  apply List.ext_getElem?
  intro t
  have hlen : (xs.flatMap f).length = xs.length * n := by
    induction xs with
    | nil => simp
    | cons x r ih => simp only [List.flatMap_cons, List.length_append, hf, ih, List.length_cons, Nat.succ_mul]; omega
  by_cases ht : t < xs.length * n
  · have hj : t / n < xs.length := by rw [Nat.div_lt_iff_lt_mul hn]; exact ht
    have hm : t % n < n := Nat.mod_lt _ hn
    have h1 := get_flatK f n xs.toArray t (by simpa using ht)
    have hsz : t < (flatK f n xs.toArray).size := by simpa using ht
    have e1 : (flatK f n xs.toArray).toList[t]? = some ((flatK f n xs.toArray)[t]!) := by
      rw [Array.getElem?_toList, Array.getElem?_eq_getElem hsz, getElem!_pos _ t hsz]
    rw [e1, h1]
    have e2 : (xs.toArray)[t / n]! = xs[t / n] := by simp [hj]
    rw [e2]
    have hl : t % n < (f xs[t / n]).length := by rw [hf]; exact hm
    have h2 := row_flat_get hf xs (t / n) hj (t % n) ((f xs[t / n])[t % n]!) (by rw [List.getElem?_eq_getElem hl, getElem!_pos (f xs[t / n]) (t % n) hl])
    rw [← h2]
    congr 1
    rw [Nat.mul_comm]; exact Nat.div_add_mod t n
  · rw [List.getElem?_eq_none (by simp; omega), List.getElem?_eq_none (by omega)]
theorem put_take (cur ts : Array Value) (h : ts.size ≤ cur.size) : (putCells id 0 ts cur).toList.take ts.size = ts.toList := by
  apply List.ext_getElem?
  intro j
  by_cases hj : j < ts.size
  · rw [List.getElem?_take_of_lt hj, Array.getElem?_toList, Array.getElem?_toList]
    have hc : j < cur.size := by omega
    simp [putCells, hj, hc]
  · rw [List.getElem?_take_eq_none (by omega), List.getElem?_eq_none (by simp; omega)]
/-- A row of the call's own, sorted in place by a comparison that parts all. -/
theorem sortedR_own {P : Program} {g0 : FuncId} {fv : Value} {E : TypeId} {base : Nat} {w : World} {v : Value} {xs : List α} {S : List α → List α} (hf : ∀ x, (f x).length = n) (hn : 0 < n) (hS : ∀ xs, (S xs).length = xs.length)
    (hC : ∀ (blk off cap : Nat) (zs : List α) (w : World), HoldsK f n w blk off zs.toArray → blk < w.heap.size → zs.length < 4611686018427387904 →
      Calls P g0 #[.slice (some ⟨blk, off, none⟩) zs.length cap, fv] w fun e w' => e = .returned (.tuple #[]) ∧ ∃ q os, w' = sortWorldK f n w blk off q (S zs).toArray os)
    (hN : ∀ (p : Option Addr) (cap : Nat) (w : World), Calls P g0 #[.slice p 0 cap, fv] w fun e w' => e = .returned (.tuple #[]) ∧ w' = w) (hlen : xs.length ≤ 1000000) (h : OwnR f n E base w v xs) :
    Calls P g0 [v, fv].toArray w fun r w' => ∃ u, r = .returned u ∧ OwnR f n E base w' v (S xs) ∧ w.grownBy w' v.ownBlock := by
  unfold OwnR at h
  obtain ⟨h0, h1, h2⟩ := h
  rcases h2 with ⟨hv, he⟩ | ⟨g, cap, cur, rfl, hb, hg, h3, h4, h5, h6⟩
  · have e : xs = [] := List.length_eq_zero_iff.1 he
    subst e
    subst hv
    have e2 : S [] = [] := List.length_eq_zero_iff.1 (by rw [hS]; rfl)
    refine Calls.mono (hN none 0 w) ?_
    rintro r w' ⟨rfl, rfl⟩
    exact ⟨_, rfl, (by rw [e2]; exact OwnR.nil _ _ _), (Ex.refl w').grownBy⟩
  · have hsz : g < w.heap.size := (Array.getElem?_eq_some_iff.1 hg).1
    have hfl := flat_eq hf hn xs
    have hfs : (flatK f n xs.toArray).size = xs.length * n := by simp
    have hH : HoldsK f n w g 0 xs.toArray := by
      intro j hj
      have hj' : j < xs.length * n := by simpa using hj
      refine ⟨?_, by simp [World.frozen?, hg]⟩
      have e1 : (cur.toList.take (xs.length * n))[j]? = (flatK f n xs.toArray).toList[j]? := by rw [h6, hfl]
      rw [List.getElem?_take_of_lt hj', Array.getElem?_toList, Array.getElem?_toList, Array.getElem?_eq_getElem hj] at e1
      simp only [World.cell?, hg, Nat.zero_add]
      rw [getElem!_pos _ j hj]
      simpa using e1
    refine Calls.mono (hC g 0 cap xs w hH hsz (by omega)) ?_
    rintro r w' ⟨rfl, q, os, rfl⟩
    have hl2 := hS xs
    have hmul : xs.length * n ≤ cap * n := Nat.mul_le_mul_right n h3
    have hfs2 : (flatK f n (S xs).toArray).size = xs.length * n := by simp [hl2]
    refine ⟨_, rfl, ?_, ?_⟩
    · unfold OwnR
      refine ⟨by rw [hl2]; exact h0, ?_, .inr ⟨g, cap, putCells id 0 (flatK f n (S xs).toArray) cur, by rw [hl2], hb, ?_, by rw [hl2]; exact h3, h4, by simp [putCells, h5], ?_⟩⟩
      · rw [← flat_eq hf hn]; simp
      · unfold sortWorldK putRowK
        rw [heap_grow_old _ _ (by simpa [putRow, mapBlock, Sort.ahead] using hsz)]
        simp [putRow, mapBlock, Sort.ahead, Array.getElem?_modify, hg, onCells]
      · rw [← flat_eq hf hn (S xs), hl2, ← hfs2]
        exact put_take cur _ (by rw [hfs2, h5]; exact hmul)
    · refine ⟨rfl, rfl, rfl, by simp [sortWorldK, putRowK, putRow, mapBlock, Sort.ahead], fun k hk hne => ?_⟩
      unfold sortWorldK putRowK
      rw [heap_grow_old _ _ (by simpa [putRow, mapBlock, Sort.ahead] using hk)]
      have : g ≠ k := fun e => hne (by rw [e]; rfl)
      simp [putRow, mapBlock, Sort.ahead, Array.getElem?_modify, this]
end
/-- A slot with its number, in cells. -/
def encN (sl : List (Int × Int)) (i : Nat) : List Value := [.int .i64 (sl.getD i (0, 0)).1, .int .i64 (sl.getD i (0, 0)).2, .int .i64 i]
def cfN (sl : List (Int × Int)) (i k : Nat) : Int := cmpN ((sl.getD i (0, 0)).1, i) ((sl.getD k (0, 0)).1, k)
theorem cmpN_lt (A B : Int) (i k : Nat) : cmpN (A, (i : Int)) (B, (k : Int)) < 0 ↔ (A < B ∨ (A = B ∧ i < k)) := by
  have e : ∀ a b : Int, (a < b ∧ cmpI a b = -1) ∨ (b < a ∧ cmpI a b = 1) ∨ (a = b ∧ cmpI a b = 0) := by
    intro a b; unfold cmpI
    by_cases h1 : a < b
    · exact .inl ⟨h1, by rw [if_pos h1]⟩
    · by_cases h2 : b < a
      · exact .inr (.inl ⟨h2, by rw [if_neg h1, if_pos h2]⟩)
      · exact .inr (.inr ⟨by omega, by rw [if_neg h1, if_neg h2]⟩)
  show firstNZ [cmpI A B, cmpI (i : Int) (k : Int)] < 0 ↔ _
  rcases e A B with ⟨h1, h2⟩ | ⟨h1, h2⟩ | ⟨h1, h2⟩
  · simp [firstNZ, h2, h1]
  · simp [firstNZ, h2]; omega
  · rcases e i k with ⟨h3, h4⟩ | ⟨h3, h4⟩ | ⟨h3, h4⟩
    · simp [firstNZ, h2, h4]; omega
    · simp [firstNZ, h2, h4]; omega
    · simp [firstNZ, h2, h4]; omega
theorem ltN (sl : List (Int × Int)) (i k : Nat) : ltOf (cfN sl) i k = decide (beforeP sl i k) := by
  unfold ltOf cfN beforeP
  exact decide_eq_decide.2 (cmpN_lt _ _ i k)
theorem swoN (sl : List (Int × Int)) : SWO (ltOf (cfN sl)) where
  irrefl x := by rw [ltN]; simpa using before_irr
  trans x y z h1 h2 := by rw [ltN] at *; simp only [decide_eq_true_eq] at *; exact before_tr h1 h2
  ntrans x y z h1 h2 := by rw [ltN] at *; simp only [decide_eq_false_iff_not] at *; unfold beforeP at *; omega
theorem totN (sl : List (Int × Int)) (x y : Nat) (h1 : ltOf (cfN sl) x y = false) (h2 : ltOf (cfN sl) y x = false) : x = y := by
  rw [ltN] at h1 h2
  simp only [decide_eq_false_iff_not] at h1 h2
  exact Classical.byContradiction fun h => (before_tot h).elim h1 h2
def sortN (sl : List (Int × Int)) (xs : List Nat) : List Nat := xs.mergeSort fun x y => !(ltOf (cfN sl) y x)
theorem sortN_len (sl : List (Int × Int)) (xs : List Nat) : (sortN sl xs).length = xs.length := List.length_mergeSort xs
theorem sortN_ord (sl : List (Int × Int)) : sortN sl (List.range sl.length) = ordL sl := by
  refine sorted_uniq ((List.mergeSort_perm _ _).trans (ordL_perm sl).symm) ?_ (ordL_sorted sl)
  have hnd : (sortN sl (List.range sl.length)).Nodup := (List.mergeSort_perm _ _).nodup_iff.2 List.nodup_range
  have hle := List.pairwise_mergeSort (le := fun x y => !(ltOf (cfN sl) y x)) (fun a b c h1 h2 => by
    simp only [ltN, Bool.not_eq_true', decide_eq_false_iff_not] at *
    unfold beforeP at *; omega) (fun a b => by
    simp only [ltN]
    by_cases h : beforeP sl b a
    · have : ¬ beforeP sl a b := fun h2 => before_irr (before_tr h h2)
      simp [h, this]
    · simp [h]) (List.range sl.length)
  refine (List.Pairwise.and hnd hle).imp ?_
  rintro a b ⟨h1, h2⟩
  simp only [ltN, Bool.not_eq_true', decide_eq_false_iff_not] at h2
  exact (before_tot h1).resolve_right h2
end Go.Pv
namespace Go.Proofs.Ytjcigpakljfkeaa
open Go.Pv Go.RowKit Go.Sort Go.Proofs
set_option maxHeartbeats 8000000
theorem cmpLaysN (sl : List (Int × Int)) (blk off size : Nat) (w : World) : CmpLays Try.prog 84 #[] (encN sl) 3 (cfN sl) blk off size w := by
  intro m os dk _ x y
  have := numCompare_any (sl.getD x (0, 0)).1 (sl.getD x (0, 0)).2 x (sl.getD y (0, 0)).1 (sl.getD y (0, 0)).2 y (sortWorldK (encN sl) 3 w blk off m dk os)
  unfold Ret at this
  refine Calls.mono this ?_
  rintro e w' ⟨v, rfl, ⟨rfl, hG⟩, _⟩
  exact ⟨rfl, hG⟩
theorem sortFuncN (sl : List (Int × Int)) (E : TypeId) (base : Nat) (v : Value) (xs : List Nat) (w : World) (hlen : xs.length ≤ 1000000) (h : OwnR (encN sl) 3 E base w v xs) :
    Calls Try.prog 83 [v, .func (.func 84) #[] #[]].toArray w fun r w' => ∃ u, r = .returned u ∧ OwnR (encN sl) 3 E base w' v (sortN sl xs) ∧ w.grownBy w' v.ownBlock := by
  refine sortedR_own (fun _ => rfl) (by decide) (sortN_len sl) (fun blk off cap zs w hH hb hs => ?_) (fun p cap w => ?_) hlen h
  · have := AnyQ.slices_SortFunc_total Try.laysSf 3 Try.isAgg107 Try.sizeOf107 (encN sl) (fun _ => rfl) (fun x v hv => by simp [encN] at hv; rcases hv with rfl | rfl | rfl <;> rfl) (cfN sl) (swoN sl) 84 #[] blk off cap zs.toArray w (enters_of Try.func84 (by kernel_rfl) rfl) (cmpLaysN sl blk off _ w) hH hb (by simpa using hs) (totN sl)
    exact this
  · exact AnyF.slices_SortFunc_none { Try.laysSf with } p cap _ w
end Go.Proofs.Ytjcigpakljfkeaa
