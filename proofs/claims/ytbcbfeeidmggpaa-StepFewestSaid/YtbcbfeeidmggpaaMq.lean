/-
  What this text proves: the master's sheet as plain functions, and facts on it: it has no error, its offsets fit. It speaks of no program.
-/
import Derived.Test.YtbcbfeeidmggpaaMd
import Derived.Test.YtbcbfeeidmggpaaFacts
import Derived.Test.YtbcbfeeidmggpaaI
set_option linter.unusedVariables false
set_option linter.unusedSimpArgs false

namespace Go.Pv
open Go.RowKit
/-- The row of a hole, and its position. -/
def rowN (h : Int × Int) : Int := 7 + h.1 % 50
def posN (s off o : Int) (h : Int × Int) : Int := o + rowN h * s + h.2 % (2 * off + 1) - off
def clTo (s off : Int) (os : Nat → Int) (hs : List (Int × Int)) (c : Nat) : Nat → List Int
  | 0 => []
  | k + 1 => if k % 3 = c then clTo s off os hs c k ++ [posN s off (os c % s) (hs.getD k (0, 0))] else clTo s off os hs c k
def rlTo (hs : List (Int × Int)) (c : Nat) : Nat → List Int
  | 0 => []
  | k + 1 => if k % 3 = c then rlTo hs c k ++ [rowN (hs.getD k (0, 0))] else rlTo hs c k
def olTo (s : Int) (os : Nat → Int) (n : Nat) : List Int := (List.range n).map fun c => os c % s
theorem clTo_len (s off : Int) (os : Nat → Int) (hs : List (Int × Int)) (c : Nat) : ∀ k, (clTo s off os hs c k).length ≤ k
  | 0 => by simp [clTo]
  | k + 1 => by
    have := clTo_len s off os hs c k
    simp only [clTo]; split
    · simp; omega
    · omega
theorem rlTo_len (hs : List (Int × Int)) (c : Nat) : ∀ k, (rlTo hs c k).length ≤ k
  | 0 => by simp [rlTo]
  | k + 1 => by
    have := rlTo_len hs c k
    simp only [rlTo]; split
    · simp; omega
    · omega
theorem clTo_step (s off : Int) (os : Nat → Int) (hs : List (Int × Int)) (k : Nat) : (fun c => clTo s off os hs c (k + 1)) = setF (fun c => clTo s off os hs c k) (k % 3) (clTo s off os hs (k % 3) k ++ [posN s off (os (k % 3) % s) (hs.getD k (0, 0))]) := by
  funext c
  simp only [clTo, setF]
  by_cases e : k % 3 = c
  · rw [if_pos e, if_pos e.symm]; subst e; rfl
  · rw [if_neg e, if_neg (fun h => e h.symm)]
theorem rlTo_step (hs : List (Int × Int)) (k : Nat) : (fun c => rlTo hs c (k + 1)) = setF (fun c => rlTo hs c k) (k % 3) (rlTo hs (k % 3) k ++ [rowN (hs.getD k (0, 0))]) := by
  funext c
  simp only [rlTo, setF]
  by_cases e : k % 3 = c
  · rw [if_pos e, if_pos e.symm]; subst e; rfl
  · rw [if_neg e, if_neg (fun h => e h.symm)]
theorem range_set {α : Type} (f : Nat → α) (n c : Nat) (a : α) (hc : c < n) : ((List.range n).map f).set c a = (List.range n).map (setF f c a) := by
  apply List.ext_getElem
  · simp
  · intro i h1 h2
    simp only [List.getElem_set, List.getElem_map, List.getElem_range, setF]
    by_cases e : c = i
    · rw [if_pos e, if_pos e.symm]
    · rw [if_neg e, if_neg (fun h => e h.symm)]
theorem range_getD (f : Nat → Value) (n c : Nat) (hc : c < n) : ((List.range n).map f).getD c undef = f c := by simp [hc]
theorem range_app (f : Nat → Value) (n : Nat) (a : Value) (h : f n = a) : (List.range n).map f ++ [a] = (List.range (n + 1)).map f := by
  rw [List.range_succ, List.map_append, List.map_cons, List.map_nil, h]
theorem olTo_app (s : Int) (os : Nat → Int) (n : Nat) : olTo s os n ++ [os n % s] = olTo s os (n + 1) := by
  unfold olTo
  rw [List.range_succ, List.map_append, List.map_cons, List.map_nil]
theorem olTo_get (s : Int) (os : Nat → Int) (n c : Nat) (hc : c < n) : (olTo s os n).getD c 0 = os c % s := by simp [olTo, hc]
theorem mul_bd {a b : Int} (ha : 0 ≤ a ∧ a ≤ 60) (hb : 0 ≤ b ∧ b ≤ 40) : 0 ≤ a * b ∧ a * b ≤ 2400 :=
  ⟨Int.mul_nonneg ha.1 hb.1, Int.le_trans (Int.mul_le_mul ha.2 hb.2 hb.1 (by omega)) (by omega)⟩
theorem Ex.grownAny {w w' : World} (e : Ex w w') (row : Option Nat) : w.grownBy w' row := by
  have := e.grownBy
  exact ⟨this.os, this.tape, this.output, this.size, fun k hk _ => this.block k hk (by simp)⟩
theorem OwnV.built {E : TypeId} {base b : Nat} {w : World} {m : Value} (h : Bx w b [m] E) (hb : base ≤ b) : OwnV E base w (.slice (some ⟨b, 0, none⟩) 1 1) [m] := by
  unfold OwnV
  unfold Bx at h
  exact ⟨(by unfold maxLen; simp), by simp, .inr ⟨b, 1, _, rfl, hb, h, Nat.le_refl _, by decide, rfl, rfl⟩⟩
theorem OwnV.mono {E : TypeId} {base base' : Nat} {w : World} {v : Value} {xs : List Value} (h : OwnV E base w v xs) (hb : base' ≤ base) : OwnV E base' w v xs := by
  unfold OwnV at h ⊢
  refine ⟨h.1, h.2.1, ?_⟩
  rcases h.2.2 with h2 | ⟨g, cap, cur, h1, h2, h3⟩
  · exact .inl h2
  · exact .inr ⟨g, cap, cur, h1, by omega, h3⟩
theorem Fam.mono {base base' : Nat} {w : World} {f : Nat → Ent} (h : Fam base w f) (hb : base' ≤ base) : Fam base' w f := ⟨fun i => (h.1 i).mono hb, h.2⟩
/-- What made makes of bytes: the number of copies, the positions, the rows, the offsets. -/
def mN (l : Nat) : Nat := if l = 0 then 1 else min (min l 15) 3
def mC (s off : Int) (os : Nat → Int) (hs : List (Int × Int)) : Nat → List Int := if hs.length = 0 then setF (fun _ => []) 0 [7 * s] else fun c => clTo s off os hs c (min hs.length 15)
def mR (hs : List (Int × Int)) : Nat → List Int := if hs.length = 0 then setF (fun _ => []) 0 [7] else fun c => rlTo hs c (min hs.length 15)
def mO (s : Int) (os : Nat → Int) (l : Nat) : List Int := if l = 0 then [0] else olTo s os (min (min l 15) 3)
theorem OwnV.ints {E : TypeId} {base : Nat} {w : World} {v : Value} {xs : List Int} (h : OwnV E base w v (xs.map (Value.int .i64))) : Own E base w v xs := by
  unfold OwnV at h
  unfold Own
  simpa using h
section
variable {P : Program} {Q : Exit → Act → World → Prop} {x y : Code} {l : St} {w : World}
/-- A cut: what holds behind a piece of code, said by its slots. -/
theorem c_cutG {n : Nat} (I : List (Nat × Value) → World → Prop) (h : ∀ J : St → World → Prop, (∀ l' w' ps, I ps w' → agree l' ps → l'.n = n → J l' w') → C P x (Exit.then (fun a' w' => ∃ l', a' = act l' ∧ J l' w') Q) l w) (k : ∀ u ps w', I ps w' → C P y Q ⟨n, u, ps⟩ w') : C P (.seq x y) Q l w := by
  refine c_cut (fun l' w' => ∃ u ps, act l' = act ⟨n, u, ps⟩ ∧ I ps w') (h _ fun l' w' ps hi ha hn => ⟨_, ps, by rw [act_agree l' ps ha, hn], hi⟩) ?_
  rintro l' w' ⟨u, ps, e, hi⟩
  have := k u ps w' hi
  unfold C at this ⊢
  rw [e]; exact this
theorem n_cutG {J : St → World → Prop} (h : J l w) : Exit.then (fun a' w' => ∃ l', a' = act l' ∧ J l' w') Q .normal (act l) w := ⟨l, rfl, h⟩
end
theorem clTo_len3 (s off : Int) (os : Nat → Int) (hs : List (Int × Int)) (c : Nat) (hc : c < 3) : ∀ k, (clTo s off os hs c k).length = (k + 2 - c) / 3
  | 0 => by simp [clTo]; omega
  | k + 1 => by
    have := clTo_len3 s off os hs c hc k
    simp only [clTo]; split
    · simp; omega
    · omega
theorem cr_len (s off : Int) (os : Nat → Int) (hs : List (Int × Int)) (c : Nat) : ∀ k, (rlTo hs c k).length = (clTo s off os hs c k).length
  | 0 => by simp [clTo, rlTo]
  | k + 1 => by
    have := cr_len s off os hs c k
    simp only [clTo, rlTo]; split
    · simp; omega
    · omega
theorem getD_left {α : Type} {a b : List α} {d : α} {j : Nat} (h : j < a.length) : (a ++ b).getD j d = a.getD j d := by
  simp only [List.getD_eq_getElem?_getD]; rw [List.getElem?_append_left h]
theorem getD_last {α : Type} {a : List α} {x d : α} {j : Nat} (h : j = a.length) : (a ++ [x]).getD j d = x := by
  subst h; simp [List.getD_eq_getElem?_getD]
theorem made_pairs (s off : Int) (os : Nat → Int) (hs : List (Int × Int)) (c : Nat) : ∀ k j, j < (clTo s off os hs c k).length →
    ∃ i, i < k ∧ (clTo s off os hs c k).getD j 0 = posN s off (os c % s) (hs.getD i (0, 0)) ∧ (rlTo hs c k).getD j 0 = rowN (hs.getD i (0, 0))
  | 0, j, h => by simp [clTo] at h
  | k + 1, j, h => by
    have hl := cr_len s off os hs c k
    by_cases e : k % 3 = c
    · have e1 : clTo s off os hs c (k + 1) = clTo s off os hs c k ++ [posN s off (os c % s) (hs.getD k (0, 0))] := by simp only [clTo]; rw [if_pos e]
      have e2 : rlTo hs c (k + 1) = rlTo hs c k ++ [rowN (hs.getD k (0, 0))] := by simp only [rlTo]; rw [if_pos e]
      rw [e1, e2] 
      rw [e1] at h
      by_cases hj : j < (clTo s off os hs c k).length
      · obtain ⟨i, h1, h2, h3⟩ := made_pairs s off os hs c k j hj
        exact ⟨i, by omega, by rw [getD_left hj, h2], by rw [getD_left (by omega), h3]⟩
      · simp at h
        exact ⟨k, by omega, by rw [getD_last (by omega)], by rw [getD_last (by omega)]⟩
    · have e1 : clTo s off os hs c (k + 1) = clTo s off os hs c k := by simp only [clTo]; rw [if_neg e]
      have e2 : rlTo hs c (k + 1) = rlTo hs c k := by simp only [rlTo]; rw [if_neg e]
      rw [e1] at h
      rw [e1, e2]
      obtain ⟨i, h1, h2, h3⟩ := made_pairs s off os hs c k j h
      exact ⟨i, by omega, h2, h3⟩
/-- A sheet with what is true of it. -/
def MadeOk (s off : Int) (n : Nat) (O : List Int) (C R : Nat → List Int) : Prop := 1 ≤ n ∧ n ≤ 3 ∧ O.length = n ∧ ∀ c, c < n → (0 ≤ O.getD c 0 ∧ O.getD c 0 < s) ∧ 1 ≤ (C c).length ∧ (C c).length ≤ 5 ∧ (R c).length = (C c).length ∧
  ∀ j, j < (C c).length → (7 ≤ (R c).getD j 0 ∧ (R c).getD j 0 ≤ 56) ∧ -off ≤ (C c).getD j 0 - O.getD c 0 - (R c).getD j 0 * s ∧ (C c).getD j 0 - O.getD c 0 - (R c).getD j 0 * s ≤ off
theorem made_ok (s off : Int) (os : Nat → Int) (hs : List (Int × Int)) (hs1 : 1 ≤ s ∧ s ≤ 40) (hoff : 0 ≤ off ∧ off ≤ 6) (hh : ∀ j, 0 ≤ (hs.getD j (0, 0)).1 ∧ (hs.getD j (0, 0)).1 ≤ 255 ∧ 0 ≤ (hs.getD j (0, 0)).2 ∧ (hs.getD j (0, 0)).2 ≤ 255) :
    MadeOk s off (mN hs.length) (mO s os hs.length) (mC s off os hs) (mR hs) := by
  unfold MadeOk mN mO mC mR
  by_cases h0 : hs.length = 0
  · rw [if_pos h0, if_pos h0, if_pos h0, if_pos h0]
    refine ⟨by omega, by omega, rfl, fun c hc => ?_⟩
    obtain rfl : c = 0 := by omega
    refine ⟨⟨by simp, by simp; omega⟩, by simp [setF], by simp [setF], by simp [setF], fun j hj => ?_⟩
    obtain rfl : j = 0 := by simpa [setF] using hj
    simp [setF]
    omega
  · rw [if_neg h0, if_neg h0, if_neg h0, if_neg h0]
    refine ⟨by omega, by omega, by simp [olTo], fun c hc => ?_⟩
    have hc3 : c < 3 := by omega
    have l1 := clTo_len3 s off os hs c hc3 (min hs.length 15)
    have l2 := cr_len s off os hs c (min hs.length 15)
    have a1 := Int.emod_nonneg (os c) (show s ≠ 0 by omega)
    have a2 := Int.emod_lt_of_pos (os c) (show 0 < s by omega)
    rw [olTo_get _ _ _ _ hc]
    refine ⟨⟨a1, a2⟩, by omega, by omega, by omega, fun j hj => ?_⟩
    obtain ⟨i, h1, h2, h3⟩ := made_pairs s off os hs c _ j hj
    rw [h2, h3]
    have hb := hh i
    unfold posN rowN
    generalize (7 + (hs.getD i (0, 0)).1 % 50) * s = q
    have b1 := Int.emod_nonneg (hs.getD i (0, 0)).2 (show 2 * off + 1 ≠ 0 by omega)
    have b2 := Int.emod_lt_of_pos (hs.getD i (0, 0)).2 (show 0 < 2 * off + 1 by omega)
    omega
theorem row_of {s off o p r : Int} (hs : 1 ≤ s) (h : -off ≤ p - o - r * s ∧ p - o - r * s ≤ off) : -(-(p - o - off) / s) ≤ r ∧ r ≤ (p - o + off) / s := by
  have h1 : -r ≤ -(p - o - off) / s := Int.le_ediv_of_mul_le (by omega) (by rw [Int.neg_mul]; omega)
  have h2 : r ≤ (p - o + off) / s := Int.le_ediv_of_mul_le (by omega) (by omega)
  omega
theorem of_row {s off o p r : Int} (hs : 1 ≤ s) (h : -(-(p - o - off) / s) ≤ r ∧ r ≤ (p - o + off) / s) : -off ≤ p - o - r * s ∧ p - o - r * s ≤ off := by
  have h1 : -r * s ≤ -(p - o - off) := Int.mul_le_of_le_ediv (by omega) (by omega)
  have h2 : r * s ≤ p - o + off := Int.mul_le_of_le_ediv (by omega) (by omega)
  rw [Int.neg_mul] at h1
  omega
theorem fits1_row {s off o p : Int} (hs : 1 ≤ s) : fits1 off s o p ↔ ∃ r, -off ≤ p - o - r * s ∧ p - o - r * s ≤ off := by
  constructor
  · intro h
    unfold fits1 at h
    exact ⟨_, of_row hs ⟨h, Int.le_refl _⟩⟩
  · rintro ⟨r, h⟩
    have := row_of hs h
    unfold fits1
    omega
theorem made_at (C : Nat → List Int) {n j : Nat} (h : j < n) : ((List.range n).map C).getD j [] = C j := by simp [h]
theorem MadeOk.fits {s off : Int} {n : Nat} {O : List Int} {C R : Nat → List Int} (h : MadeOk s off n O C R) (hs : 1 ≤ s) {c : Nat} (hc : c < n) : fitsL off s (O.getD c 0) (C c) := fun j hj => (fits1_row hs).2 ⟨_, ((h.2.2.2 c hc).2.2.2.2 j hj).2⟩
theorem MadeOk.pos {s off : Int} {n : Nat} {O : List Int} {C R : Nat → List Int} (h : MadeOk s off n O C R) (hs : 1 ≤ s ∧ s ≤ 40) (hoff : 0 ≤ off ∧ off ≤ 6) {c j : Nat} (hc : c < n) (hj : j < (C c).length) : 1 ≤ (C c).getD j 0 ∧ (C c).getD j 0 ≤ 3000 := by
  obtain ⟨h1, -, -, -, h5⟩ := h.2.2.2 c hc
  obtain ⟨h6, h7, h8⟩ := h5 j hj
  have b1 : 7 * 1 ≤ (R c).getD j 0 * s := Int.mul_le_mul h6.1 hs.1 (by omega) (by omega)
  have b2 : (R c).getD j 0 * s ≤ 56 * 40 := Int.mul_le_mul h6.2 hs.2 (by omega) (by omega)
  omega
theorem chk_of {off : Int} {xss : List (List Int)} (hoff : 0 ≤ off ∧ off ≤ 50) (hn : 1 ≤ xss.length ∧ xss.length ≤ 6) (h : ∀ c, c < xss.length → 1 ≤ (xss.getD c []).length ∧ (xss.getD c []).length ≤ 12 ∧ ∀ j, j < (xss.getD c []).length → 0 ≤ (xss.getD c []).getD j 0 ∧ (xss.getD c []).getD j 0 ≤ 1000000) : chk off xss = 0 :=
  chk_good (by omega) (by omega) (by omega) fun c hc => posErr_good (by have := h c hc; omega) (by have := h c hc; omega) (h c hc).2.2
theorem MadeOk.chk {s off : Int} {n : Nat} {O : List Int} {C R : Nat → List Int} (h : MadeOk s off n O C R) (hs : 1 ≤ s ∧ s ≤ 40) (hoff : 0 ≤ off ∧ off ≤ 6) : chk off ((List.range n).map C) = 0 := by
  refine chk_of (by omega) (by have := h.1; have := h.2.1; simp; omega) fun c hc => ?_
  have hc' : c < n := by simpa using hc
  rw [made_at C hc']
  have := h.2.2.2 c hc'
  exact ⟨by omega, by omega, fun j hj => by have := h.pos hs hoff hc' hj; omega⟩
theorem Fam.ofTwo {T : TypeId} {base : Nat} {w : World} {v : Value} {n : Nat} {cv : Nat → Value} {C : Nat → List Int} (h : OwnV T base w v ((List.range n).map cv)) (hc : ∀ c, c < n → Ints w (cv c) (C c)) : Intss w v ((List.range n).map C) := by
  unfold OwnV at h
  obtain ⟨h0, h1, h2⟩ := h
  unfold Intss Sl
  rcases h2 with ⟨rfl, h2⟩ | ⟨g, cap, cur, rfl, hb, hh, hn, hm, hs, ht⟩
  · have hn0 : n = 0 := by simpa using h2
    subst hn0
    exact ⟨Nat.zero_le _, none, 0, rfl, Nat.le_refl _, Nat.zero_le _, fun i hi => absurd hi (by simp)⟩
  · simp only [List.length_map, List.length_range] at h0 hn ⊢
    refine ⟨h0, some ⟨g, 0, none⟩, cap, rfl, hn, hm, fun i hi => ⟨⟨g, 0, none⟩, cv i, rfl, ?_, ?_⟩⟩
    · rw [add_mk]
      simp only [World.cell?, hh, Nat.zero_add]
      have e : ((List.range n).map cv)[i]? = some (cv i) := by simp [hi]
      rw [← ht, List.getElem?_take] at e
      split at e
      · simpa using e
      · cases e
    · have := hc i hi
      simpa using this
theorem Fam.intss {T1 T2 : TypeId} {base : Nat} {w : World} {x r o : Value} {n : Nat} {O : List Int} {cv rv : Nat → Value} {C R : Nat → List Int} (h : Fam base w (mkE T1 T2 x ((List.range n).map cv) r ((List.range n).map rv) o O cv C rv R)) : Intss w x ((List.range n).map C) :=
  Fam.ofTwo (Fam.xOwn h) fun c _ => (Fam.cOwn h c).ints.ints
theorem Fam.intssR {T1 T2 : TypeId} {base : Nat} {w : World} {x r o : Value} {n : Nat} {O : List Int} {cv rv : Nat → Value} {C R : Nat → List Int} (h : Fam base w (mkE T1 T2 x ((List.range n).map cv) r ((List.range n).map rv) o O cv C rv R)) : Intss w r ((List.range n).map R) :=
  Fam.ofTwo (Fam.rOwn0 h) fun c _ => (Fam.rOwn h c).ints.ints
theorem Fam.intsO {T1 T2 : TypeId} {base : Nat} {w : World} {x r o : Value} {xs rs : List Value} {O : List Int} {cv rv : Nat → Value} {C R : Nat → List Int} (h : Fam base w (mkE T1 T2 x xs r rs o O cv C rv R)) : Ints w o O := (Fam.oOwn h).ints.ints
end Go.Pv
namespace Go.Proofs.Ytbcbfeeidmggpaa
open Go.Pv Go.RowKit
theorem mem_stepL {off : Int} {xss : List (List Int)} {lo n : Int} : ∀ {k : Nat}, n ∈ stepL off xss lo k ↔ lo ≤ n ∧ n < lo + k ∧ okStep off xss n
  | 0 => by simp only [stepL, List.not_mem_nil, false_iff]; omega
  | k + 1 => by
    have ih := mem_stepL (off := off) (xss := xss) (lo := lo) (n := n) (k := k)
    by_cases e : okStep off xss (lo + k)
    · rw [stepL_yes e, List.mem_append, ih, List.mem_singleton]
      constructor
      · rintro (⟨h1, h2, h3⟩ | rfl)
        · exact ⟨h1, by omega, h3⟩
        · exact ⟨by omega, by omega, e⟩
      · rintro ⟨h1, h2, h3⟩
        by_cases e2 : n = lo + k
        · exact .inr e2
        · exact .inl ⟨h1, by omega, h3⟩
    · rw [stepL_no e, ih]
      constructor
      · rintro ⟨h1, h2, h3⟩
        exact ⟨h1, by omega, h3⟩
      · rintro ⟨h1, h2, h3⟩
        refine ⟨h1, ?_, h3⟩
        by_cases e2 : n = lo + k
        · subst e2; exact absurd h3 e
        · omega
theorem okStep_iff {off s : Int} {xss : List (List Int)} (hs : 0 ≤ s) : okStep off xss s ↔ ∀ c, c < xss.length → ∃ o, 0 ≤ o ∧ o < s ∧ fitsL off s o (xss.getD c []) := by
  unfold okStep
  constructor
  · intro h c hc
    obtain ⟨o, ho⟩ := List.exists_mem_of_ne_nil _ (h c hc)
    exact ⟨o, (mem_offL hs).1 ho⟩
  · rintro h c hc e
    obtain ⟨o, ho⟩ := h c hc
    have := (mem_offL hs).2 ho
    rw [e] at this
    cases this
theorem made_step {s off : Int} {n : Nat} {O : List Int} {C R : Nat → List Int} (h : MadeOk s off n O C R) (hs : 1 ≤ s) : okStep off ((List.range n).map C) s :=
  (okStep_iff (by omega)).2 fun c hc => by
    have hc' : c < n := by simpa using hc
    rw [made_at C hc']
    exact ⟨_, (h.2.2.2 c hc').1.1, (h.2.2.2 c hc').1.2, h.fits hs hc'⟩
end Go.Proofs.Ytbcbfeeidmggpaa
