/-
  What this text proves: the examples' answers, and comparing lists and spans.
-/
import Derived.Test.YtagibgjemliadaaVj
set_option linter.unusedVariables false
set_option linter.unusedSimpArgs false

namespace Go.Pv
section
variable {P : Program} {l : St} {w : World} {od : Option Nat} {ty : TypeId} {pos : String} {af : Array Edge}
theorem r_indexB {x ix : Operand} {T e : TypeId} {b o n c i : Nat} {k : IntKind} {z : Value} {s bb : Nat} [h : Und P T (.slice e)] [hs : Sz P e z s bb] (hx : ev l x = .slice (some ⟨b, o, none⟩) n c) (hi : ev l ix = .int k (i : Int)) (hlt : i < n) :
    Runs P ⟨od, .indexAddr T x ix, ty, pos, af, none⟩ l w (.pointer (some ⟨b, o + i * s, none⟩)) := by
  have := r_indexAddr (P := P) (l := l) (w := w) (od := od) (ty := ty) (pos := pos) (af := af) (T := T) (e := e) (z := z) (s := s) (b := bb) hx hi hlt
  rw [add_mk] at this
  exact this
end
theorem cls2 {cl : List Int} (h : clsErr 2 cl = 0) : cl = [0] ∨ cl = [1] ∨ cl = [0, 1] := by
  unfold clsErr at h
  match cl, h with
  | [], h => simp at h
  | [x], h =>
    simp [clStep] at h
    split at h
    · cases h
    · have : x = 0 ∨ x = 1 := by omega
      rcases this with rfl | rfl <;> simp
  | [x, y], h =>
    simp [clStep] at h
    by_cases c1 : x < 0 ∨ 2 ≤ x
    · rw [if_pos c1] at h; cases h
    · rw [if_neg c1] at h
      by_cases c2 : x ≤ -1
      · omega
      · rw [if_neg c2] at h
        by_cases c3 : y < 0 ∨ 2 ≤ y
        · rw [if_pos c3] at h; cases h
        · rw [if_neg c3] at h
          have : x = 0 ∧ y = 1 := by omega
          obtain ⟨rfl, rfl⟩ := this
          simp
  | x :: y :: z :: r, h => simp at h
theorem cls1 {cl : List Int} (h : clsErr 1 cl = 0) : cl = [0] := by
  unfold clsErr at h
  match cl, h with
  | [], h => simp at h
  | [x], h =>
    simp [clStep] at h
    split at h
    · cases h
    · have : x = 0 := by omega
      rw [this]
  | [x, y], h =>
    simp [clStep] at h
    by_cases c1 : x < 0 ∨ 1 ≤ x
    · rw [if_pos c1] at h; cases h
    · rw [if_neg c1] at h
      by_cases c2 : x ≤ -1
      · omega
      · rw [if_neg c2] at h
        by_cases c3 : y < 0 ∨ 1 ≤ y
        · rw [if_pos c3] at h; cases h
        · omega
  | x :: y :: z :: r, h => simp at h
theorem g35 {p : Int → Prop} (h3 : p 3) (h4 : p 4) (h5 : p 5) : ∀ g, 3 ≤ g → g ≤ 5 → p g := by
  intro g h1 h2
  rcases (show g = 3 ∨ g = 4 ∨ g = 5 by omega) with rfl | rfl | rfl <;> assumption
theorem ex_m1 : mErr 100 10 3 5 1 [(2, 204), (4, 424)] = 0 := by decide +kernel
theorem ex_m2 : mErr 100 10 3 5 1 [(2, 206), (4, 418)] = 0 := by decide +kernel
theorem ex_m3 : mErr 100 10 3 5 1 [(4, 437)] = 0 := by decide +kernel
theorem ex_s1 : spanM 100 1 3 5 [(2, 204), (4, 424)] 4 4 :=
  ⟨by decide, g35 (p := fun g => fitAll 100 1 g [(2, 204), (4, 424)] ↔ 4 ≤ g ∧ g ≤ 4) (by decide +kernel) (by decide +kernel) (by decide +kernel)⟩
theorem ex_no2 : ∀ g, 3 ≤ g → g ≤ 5 → ¬ fitAll 100 1 g [(2, 206), (4, 418)] := g35 (p := fun g => ¬ fitAll 100 1 g [(2, 206), (4, 418)]) (by decide +kernel) (by decide +kernel) (by decide +kernel)
theorem ex_no3 : ∀ g, 3 ≤ g → g ≤ 5 → ¬ fitAll 100 1 g [(4, 437)] := g35 (p := fun g => ¬ fitAll 100 1 g [(4, 437)]) (by decide +kernel) (by decide +kernel) (by decide +kernel)
theorem span_no {co off lo hi a b : Int} {ms : List (Int × Int)} (h : spanM co off lo hi ms a b) (hn : ∀ g, lo ≤ g → g ≤ hi → ¬ fitAll co off g ms) : False :=
  hn a h.1.1 (by have := h.1; omega) ((h.2 a h.1.1 (by have := h.1; omega)).2 ⟨by omega, h.1.2.1⟩)
theorem ex_g1 {a b e : Int} (h : GrRes 100 10 3 5 1 [(2, 204), (4, 424)] a b e) : a = 4 ∧ b = 4 ∧ e = 0 := by
  rcases h with ⟨h, _⟩ | ⟨_, rfl, h⟩ | ⟨_, _, _, _, h⟩
  · exact absurd ex_m1 h
  · have := span_uniq h ex_s1
    omega
  · exact (span_no ex_s1 h).elim
theorem ex_g2 {a b e : Int} (h : GrRes 100 10 3 5 1 [(2, 206), (4, 418)] a b e) : e = 15 := by
  rcases h with ⟨h, _⟩ | ⟨_, rfl, h⟩ | ⟨_, h, _, _, _⟩
  · exact absurd ex_m2 h
  · exact (span_no h ex_no2).elim
  · exact h
theorem ex_c2 {cl : List Int} {e : Int} (h : ClRes 100 10 3 5 1 [(2, 206), (4, 418)] cl e) : cl = [0, 1] ∧ e = 0 := by
  rcases h with ⟨h, _⟩ | ⟨_, _, _, a, b, h⟩ | ⟨_, rfl, hc, hm⟩
  · exact absurd ex_m2 h
  · exact (span_no h ex_no2).elim
  · rcases cls2 hc with rfl | rfl | rfl
    · exact absurd (by decide +kernel) (hm 5 (by decide) (by decide))
    · exact absurd (by decide +kernel) (hm 3 (by decide) (by decide))
    · exact ⟨rfl, rfl⟩
theorem ex_c3 {cl : List Int} {e : Int} (h : ClRes 100 10 3 5 1 [(4, 437)] cl e) : cl = [0] ∧ e = 0 := by
  rcases h with ⟨h, _⟩ | ⟨_, _, _, a, b, h⟩ | ⟨_, rfl, hc, hm⟩
  · exact absurd ex_m3 h
  · exact (span_no h ex_no3).elim
  · exact ⟨cls1 hc, rfl⟩
theorem ex_v2 {e : Int} (h : VfRes 100 10 3 5 1 [(2, 206), (4, 418)] [0, 1] e) : e = 0 := by
  have hc : clsErr 2 [0, 1] = 0 := by decide
  rcases h with ⟨h, _⟩ | ⟨_, h, _⟩ | ⟨_, _, _, h⟩ | ⟨_, _, h, _⟩
  · exact absurd ex_m2 h
  · exact absurd hc h
  · exact h
  · exact absurd (fun g h1 h2 hf => ex_no2 g h1 h2 (by simpa [pickM] using hf)) h
theorem ex_1 : lnSp 100 10 3 5 4 = (418, 430) ∧ lnErr 100 10 3 5 4 = 0 := by decide +kernel
theorem ex_2 : ptSp 100 10 3 5 25 = (256, 260) ∧ ptErr 100 10 3 5 25 = 0 := by decide +kernel
theorem ex_3 : arSp 100 10 3 5 249 = (24, 25) ∧ arErr 100 10 3 5 249 = 0 := by decide +kernel
theorem ex_4 : ctL 100 10 3 5 4 [0, 10, 25] = [0, 100, 258] ∧ ctErr 100 10 3 5 4 [0, 10, 25] = 0 := by decide +kernel
theorem ex_5 : pyL 100 10 3 5 4 [0, 100, 258] = [0, 10, 25] ∧ pyErr 100 10 3 5 4 [0, 100, 258] = 0 := by decide +kernel
theorem ex_6 : drSp 100 10 3 5 4 25 = (25, 26) ∧ drErr 100 10 3 5 4 25 = 0 := by decide +kernel
theorem ex_7 : gvL 100 10 3 5 4 3 = [10, 10, 11] ∧ gvErr 100 10 3 5 4 3 = 0 := by decide +kernel
theorem ex_8 : lnSp 100 10 3 5 2 = (203, 205) ∧ lnErr 100 10 3 5 2 = 0 := by decide +kernel
theorem ex_9 : arSp 100 10 3 5 203 = (20, 20) ∧ arErr 100 10 3 5 203 = 0 := by decide +kernel
end Go.Pv
