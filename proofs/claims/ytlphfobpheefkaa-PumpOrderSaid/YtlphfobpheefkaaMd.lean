/-
  What this text proves: laws for arrays, for slices of pairs of bytes, and for a return of four results, over any program.
-/
import Derived.Test.YtlphfobpheefkaaFam
import Derived.Test.YtlphfobpheefkaaZ
set_option linter.unusedVariables false
set_option linter.unusedSimpArgs false

namespace Go.Pv
open Go.RowKit
/-- A slice of pairs of bytes that is read. -/
def Prs8 (w : World) (v : Value) (xs : List (Int × Int)) : Prop :=
  xs.length ≤ maxLen ∧ ∃ a cap, v = .slice a xs.length cap ∧ xs.length ≤ cap ∧ cap ≤ maxLen ∧ ∀ i, i < xs.length → ∃ p b o, a = some p ∧ p.add (i * 2) = ⟨b, o, none⟩ ∧ w.cell? ⟨b, o + 0, none⟩ = some (.int .u8 (xs.getD i (0, 0)).1) ∧ w.cell? ⟨b, o + 1, none⟩ = some (.int .u8 (xs.getD i (0, 0)).2)
theorem Prs8.ex {w w' : World} {v : Value} {xs : List (Int × Int)} (e : Ex w w') (h : Prs8 w v xs) : Prs8 w' v xs := by
  obtain ⟨h0, a, cap, h1, h2, h3, h4⟩ := h
  refine ⟨h0, a, cap, h1, h2, h3, fun i h => ?_⟩
  obtain ⟨p, b, o, h5, h6, h7, h8⟩ := h4 i h
  exact ⟨p, b, o, h5, h6, e.cell h7, e.cell h8⟩
theorem Prs8.len {w : World} {v : Value} {xs : List (Int × Int)} (h : Prs8 w v xs) : xs.length ≤ 9223372036854775807 := h.1
theorem Prs8.one {w : World} {v : Value} {xs : List (Int × Int)} (h : Prs8 w v xs) : v.oneCell' = true := by
  obtain ⟨_, a, cap, rfl, _⟩ := h; rfl
section
variable {P : Program} {Q : Exit → Act → World → Prop} {R : Act → Prop} {ol rest : List Oper} {l : St} {w : World} {od : Option Nat} {ty : TypeId} {pos : String} {af : Array Edge}
theorem r_lenPr8 {x : Operand} {T e : TypeId} {v : Value} {xs : List (Int × Int)} [h : Und P T (.slice e)] (hx : ev l x = v) (hs : Prs8 w v xs) :
    Runs P ⟨od, .call { callee := .builtin .len, args := #[x], argTypes := #[T] }, ty, pos, af, none⟩ l w (.int .i64 xs.length) := by
  obtain ⟨_, a, cap, rfl, _⟩ := hs
  exact r_len (e := e) hx
theorem r_indexPr8 {x ix : Operand} {T e : TypeId} {v : Value} {i : Nat} {k : IntKind} {z : Value} {bb : Nat} {xs : List (Int × Int)} [h : Und P T (.slice e)] [hs : Sz P e z 2 bb] (hx : ev l x = v) (hv : Prs8 w v xs) (hi : ev l ix = .int k (i : Int)) (hlt : i < xs.length) :
    ∃ b o, (∀ w', Runs P ⟨od, .indexAddr T x ix, ty, pos, af, none⟩ l w' (.pointer (some ⟨b, o, none⟩))) ∧ w.cell? ⟨b, o + 0, none⟩ = some (.int .u8 (xs.getD i (0, 0)).1) ∧ w.cell? ⟨b, o + 1, none⟩ = some (.int .u8 (xs.getD i (0, 0)).2) := by
  obtain ⟨_, a, cap, rfl, hc, hm, hall⟩ := hv
  obtain ⟨p, b, o, rfl, h1, h2, h3⟩ := hall i hlt
  exact ⟨b, o, fun w' => by have := r_indexAddr (P := P) (T := T) (od := od) (ty := ty) (pos := pos) (af := af) (w := w') (e := e) hx hi hlt; rwa [h1] at this, h2, h3⟩
theorem W_indexPr8 {d : Nat} {x ix : Operand} {T e : TypeId} {v : Value} {i : Nat} {k : IntKind} {z : Value} {bb : Nat} {xs : List (Int × Int)} [h : Und P T (.slice e)] [hs : Sz P e z 2 bb] (hx : ev l x = v) (hv : Prs8 w v xs) (hi : ev l ix = .int k (i : Int)) (hlt : i < xs.length)
    (K : ∀ b o, w.cell? ⟨b, o + 0, none⟩ = some (.int .u8 (xs.getD i (0, 0)).1) → w.cell? ⟨b, o + 1, none⟩ = some (.int .u8 (xs.getD i (0, 0)).2) → W P ol Q rest (upd l d (.pointer (some ⟨b, o, none⟩))) w) : W P ol Q (⟨some d, .indexAddr T x ix, ty, pos, af, none⟩ :: rest) l w := by
  obtain ⟨b, o, h1, h2, h3⟩ := r_indexPr8 (P := P) (od := some d) (ty := ty) (pos := pos) (af := af) (T := T) (e := e) hx hv hi hlt
  exact W_op rfl rfl (h1 w) (K _ _ h2 h3)
theorem WM_indexPr8 {d : Nat} {x ix : Operand} {T e : TypeId} {v : Value} {i : Nat} {k : IntKind} {z : Value} {bb : Nat} {xs : List (Int × Int)} [h : Und P T (.slice e)] [hs : Sz P e z 2 bb] (hx : ev l x = v) (hv : Prs8 w v xs) (hi : ev l ix = .int k (i : Int)) (hlt : i < xs.length)
    (K : ∀ b o, w.cell? ⟨b, o + 0, none⟩ = some (.int .u8 (xs.getD i (0, 0)).1) → w.cell? ⟨b, o + 1, none⟩ = some (.int .u8 (xs.getD i (0, 0)).2) → WM P w ol R rest (upd l d (.pointer (some ⟨b, o, none⟩)))) : WM P w ol R (⟨some d, .indexAddr T x ix, ty, pos, af, none⟩ :: rest) l := by
  obtain ⟨b, o, h1, h2, h3⟩ := r_indexPr8 (P := P) (od := some d) (ty := ty) (pos := pos) (af := af) (T := T) (e := e) hx hv hi hlt
  exact WM_op rfl rfl (fun w' _ => h1 w') (K _ _ h2 h3)
/-- The address of an array's element. -/
theorem r_indexArr {x ix : Operand} {T e : TypeId} {n b o i : Nat} {k : IntKind} {z : Value} {s bb : Nat} [h : Und P T (.array n e)] [hs : Sz P e z s bb] (hx : ev l x = .pointer (some ⟨b, o, none⟩)) (hi : ev l ix = .int k (i : Int)) (hlt : i < n) :
    Runs P ⟨od, .indexAddr T x ix, ty, pos, af, none⟩ l w (.pointer (some ⟨b, o + i * s, none⟩)) := by
  simp [Runs, execOp, hx, hi, Instr.indexAt, Instr.sureAddr, asIntOf, h.run, hs.run, hlt, add_mk]
theorem p_ret4c {fn : Func} {t u1 u2 u3 T T' : Nat} {b n bytes : Nat} {c : List Value} {z v1 v2 v3 : Value} {R : Ending → World → Prop} (hd0 : l.ds = []) (hr : fn.results = #[.cell t T, .tmp u1, .tmp u2, .tmp u3]) (h' : Agg P T) (hs : Sz P T z n bytes) (ht : nth l t = .pointer (some ⟨b, 0, none⟩)) (hb : Bx w b c T') (hn : c.length = n)
    (h1 : nth l u1 = v1) (h2 : nth l u2 = v2) (h3 : nth l u3 = v3) (h : R (.returned (.tuple #[.agg c.toArray, v1, v2, v3])) w) : BP P fn R .ret (act l) w := by
  refine bp_nil (.inl rfl) hd0 ⟨.tuple #[.agg c.toArray, v1, v2, v3], ?_, h⟩
  have g1 := run_loadCells_list (P := P) w ⟨b, 0, none⟩ c (by have := hb.cells; unfold Cells at this; exact this)
  rw [hn] at g1
  obtain ⟨d, g2, hd⟩ := h'.out
  have g3 : Und P T d := ⟨g2⟩
  have g4 : (act l).tmps[t]?.getD undef = .pointer (some ⟨b, 0, none⟩) := by rw [nth_eq]; exact ht
  have k1 : (act l).tmps[u1]?.getD undef = v1 := by rw [nth_eq]; exact h1
  have k2 : (act l).tmps[u2]?.getD undef = v2 := by rw [nth_eq]; exact h2
  have k3 : (act l).tmps[u3]?.getD undef = v3 := by rw [nth_eq]; exact h3
  simp [results, hr, g4, asAddr, loadVar, g3.isAgg, hd, hs.run, g1, k1, k2, k3]
theorem r_conv8 {x : Operand} {src dst : TypeId} {ds : TypeDesc} {m : Int} [Und P src ds] [hd : Und P dst (.int .i64)] (hx : ev l x = .int .u8 m) (hm : 0 ≤ m ∧ m ≤ 255) : Runs P ⟨od, .convert src dst x, ty, pos, af, none⟩ l w (.int .i64 m) := by
  have := r_conv (P := P) (od := od) (ty := ty) (pos := pos) (af := af) (w := w) (src := src) (dst := dst) (k' := .i64) hx
  rwa [IntWalk.i64_in _ (by omega)] at this
theorem r_remE {x y : Operand} {T T2 : TypeId} {m n : Int} (hx : ev l x = .int .i64 m) (hy : ev l y = .int .i64 n) (hn : 1 ≤ n) (hm : 0 ≤ m) : Runs P ⟨od, .binOp .rem T x y T2, ty, pos, af, none⟩ l w (.int .i64 (m % n)) := by
  have := r_rem (P := P) (od := od) (ty := ty) (pos := pos) (af := af) (T := T) (T2 := T2) (w := w) hx hy hn
  rwa [Int.tmod_eq_emod_of_nonneg hm] at this
theorem OwnV.at {T : TypeId} {base : Nat} {w : World} {v : Value} {xs : List Value} {i : Nat} (h : OwnV T base w v xs) (hi : i < xs.length) : ∃ g cap, v = .slice (some ⟨g, 0, none⟩) xs.length cap ∧ v.ownBlock = some g ∧ base ≤ g ∧ w.cell? ⟨g, i, none⟩ = some (xs.getD i undef) := by
  unfold OwnV at h
  obtain ⟨h0, h1⟩ := h
  have h2 := h1.2
  rcases h2 with ⟨_, h2⟩ | ⟨g, cap, cur, rfl, hb, _⟩
  · omega
  · refine ⟨g, cap, rfl, rfl, hb, ?_⟩
    rw [h1.cellAt i (by omega)]
    simp [hi]
theorem r_indexV {x ix : Operand} {T e : TypeId} {v : Value} {g n c i : Nat} {k : IntKind} {z : Value} {bb : Nat} [h : Und P T (.slice e)] [hs : Sz P e z 1 bb] (hx : ev l x = v) (hv : v = .slice (some ⟨g, 0, none⟩) n c) (hi : ev l ix = .int k (i : Int)) (hlt : i < n) :
    Runs P ⟨od, .indexAddr T x ix, ty, pos, af, none⟩ l w (.pointer (some ⟨g, i, none⟩)) := by
  subst hv
  have := r_indexAddr (P := P) (T := T) (od := od) (ty := ty) (pos := pos) (af := af) (w := w) (e := e) hx hi hlt
  rw [add_mk] at this
  simpa using this
theorem off_cell {w : World} {b : Nat} {a0 a1 a5 : Value} {o0 o1 o2 : Int} {T : TypeId} {c : Nat} (h : Bx w b [a0, a1, .int .u8 o0, .int .u8 o1, .int .u8 o2, a5] T) (hc : c < 3) : w.cell? ⟨b, 0 + 2 + c * 1, none⟩ = some (.int .u8 ([o0, o1, o2].getD c 0)) := by
  have e := Bx.cell h
  rcases (show c = 0 ∨ c = 1 ∨ c = 2 by omega) with rfl | rfl | rfl
  · rw [e]; rfl
  · rw [e]; rfl
  · rw [e]; rfl
end
attribute [irreducible] Prs8
end Go.Pv
