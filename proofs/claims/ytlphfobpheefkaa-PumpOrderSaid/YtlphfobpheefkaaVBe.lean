/-
  (heavy) (rows) What this text proves: what is demanded and delivered up to each tick of a course is as the plain functions say. Conditions: the values read as lists.
-/
import Derived.Test.YtlphfobpheefkaaVBd
import Derived.Test.YtlphfobpheefkaaVKh
set_option linter.unusedVariables false
set_option linter.unusedSimpArgs false
namespace Go.Pv
open Go.RowKit Go.Sort
theorem OwnV.notCells {E : TypeId} {base : Nat} {w w' : World} {v : Value} {xs : List Value} {row : Option Nat} (h : OwnV E base w v xs) (hg : w.grownBy w' row) (hr : ∀ r, row = some r → ∃ o : Obj, w.heap[r]? = some o ∧ o.isCells = false) : OwnV E base w' v xs := by
  unfold OwnV at *
  refine ⟨h.1, h.2.kept hg ?_⟩
  rcases h.2.2 with ⟨rfl, _⟩ | ⟨g, cap, cur, rfl, hb, hh, _⟩
  · exact .inl rfl
  · refine .inr fun e => ?_
    obtain ⟨o, h1, h2⟩ := hr g e.symm
    rw [hh] at h1
    cases h1
    cases h2
theorem keeps_of_ownV {E : TypeId} {base : Nat} {w w' : World} {v : Value} {xs : List Value} (h : OwnV E base w v xs) (hg : w.grownBy w' v.ownBlock) : KeepsOthers w w' := by
  unfold OwnV at h
  rcases h.2.2 with ⟨rfl, _⟩ | ⟨g, cap, cur, rfl, hb, hh, _⟩
  · exact ⟨hg.size, fun k o hk _ => (hg.block k (Array.getElem?_eq_some_iff.1 hk).1 (by simp [Value.ownBlock])).trans hk⟩
  · refine ⟨hg.size, fun k o hk hc => (hg.block k (Array.getElem?_eq_some_iff.1 hk).1 (fun e => ?_)).trans hk⟩
    have e : k = g := Option.some.inj e
    subst e
    rw [hh] at hk
    cases hk
    cases hc
/-- Two own slices of values. -/
def TwoV (E : TypeId) (base : Nat) (w : World) (a b : Value) (xs ys : List Value) : Prop := OwnV E base w a xs ∧ OwnV E base w b ys ∧ ∀ k, a.ownBlock = some k → b.ownBlock ≠ some k
theorem TwoV.ex {E : TypeId} {base : Nat} {w w' : World} {a b : Value} {xs ys : List Value} (e : Ex w w') (h : TwoV E base w a b xs ys) : TwoV E base w' a b xs ys := ⟨h.1.ex e, h.2.1.ex e, h.2.2⟩
theorem TwoV.nil (E : TypeId) (base : Nat) (w : World) : TwoV E base w (.slice none 0 0) (.slice none 0 0) [] [] := ⟨OwnV.nil _ _ _, OwnV.nil _ _ _, fun k h => by cases h⟩
theorem TwoV.grownS {E : TypeId} {base c : Nat} {w w' : World} {a b : Value} {xs ys : List Value} (hg : w.grownBy w' (some c)) (hc : c < base) (h : TwoV E base w a b xs ys) : TwoV E base w' a b xs ys := ⟨h.1.grownS hg hc, h.2.1.grownS hg hc, h.2.2⟩
theorem TwoV.notCells {E : TypeId} {base : Nat} {w w' : World} {a b : Value} {xs ys : List Value} {row : Option Nat} (h : TwoV E base w a b xs ys) (hg : w.grownBy w' row) (hr : ∀ r, row = some r → ∃ o : Obj, w.heap[r]? = some o ∧ o.isCells = false) : TwoV E base w' a b xs ys := ⟨h.1.notCells hg hr, h.2.1.notCells hg hr, h.2.2⟩
theorem TwoV.updA {E : TypeId} {base : Nat} {w w' : World} {a a' b : Value} {xs ys us : List Value} (h : TwoV E base w a b xs ys) (hg : w.grownBy w' a.ownBlock) (hown : OwnV E base w' a' us) (hbl : a'.ownBlock = a.ownBlock ∨ a'.ownBlock = some w.heap.size) : TwoV E base w' a' b us ys := by
  refine ⟨hown, OwnV.keptB h.2.1 hg ?_, fun k hk hb => ?_⟩
  · cases e : b.ownBlock with
    | none => exact .inl rfl
    | some k => exact .inr fun e2 => h.2.2 k e2.symm e
  · rcases hbl with hbl | hbl
    · exact h.2.2 k (by rw [← hbl]; exact hk) hb
    · rw [hbl] at hk
      have := (h.2.1.lt k hb).2
      cases hk
      omega
theorem TwoV.swap {E : TypeId} {base : Nat} {w : World} {a b : Value} {xs ys : List Value} (h : TwoV E base w a b xs ys) : TwoV E base w b a ys xs := ⟨h.2.1, h.1, fun k h1 h2 => h.2.2 k h2 h1⟩
/-- The block of the regulators: their bounds, and what waits at each. -/
def RgL (w : World) (g : Nat) (L : List Value) (TT : TypeId) (vs : List Value) (W : Nat → Int) : Prop := Bx w g L TT ∧ 2 * vs.length ≤ L.length ∧ ∀ q, q < vs.length → L[2 * q]? = some (vs.getD q undef) ∧ L[2 * q + 1]? = some (.int .i64 (W q))
theorem RgL.ex {w w' : World} {g : Nat} {L : List Value} {TT : TypeId} {vs : List Value} {W : Nat → Int} (e : Ex w w') (h : RgL w g L TT vs W) : RgL w' g L TT vs W := ⟨h.1.ex e, h.2⟩
theorem RgL.grown {w w' : World} {g b : Nat} {L : List Value} {TT : TypeId} {vs : List Value} {W : Nat → Int} (h : RgL w g L TT vs W) (hg : w.grownBy w' (some b)) (hne : g ≠ b) : RgL w' g L TT vs W := ⟨h.1.grown hg (by simp [hne]), h.2⟩
theorem RgL.congr {w : World} {g : Nat} {L : List Value} {TT : TypeId} {vs : List Value} {W W' : Nat → Int} (h : RgL w g L TT vs W) (e : ∀ q, q < vs.length → W q = W' q) : RgL w g L TT vs W' := ⟨h.1, h.2.1, fun q hq => ⟨(h.2.2 q hq).1, by rw [← e q hq]; exact (h.2.2 q hq).2⟩⟩
theorem RgL.set {w w' : World} {g q : Nat} {L : List Value} {TT : TypeId} {vs : List Value} {W W' : Nat → Int} {u : Int} (h : RgL w g L TT vs W) (hq : q < vs.length) (hb : Bx w' g (L.set (q * 2 + 1) (.int .i64 u)) TT) (hu : W' q = u) (e : ∀ j, j < vs.length → j ≠ q → W j = W' j) : RgL w' g (L.set (q * 2 + 1) (.int .i64 u)) TT vs W' := by
  refine ⟨hb, by rw [List.length_set]; exact h.2.1, fun j hj => ?_⟩
  have h2 := h.2.2 j hj
  have hl := h.2.1
  refine ⟨by rw [List.getElem?_set_ne (by omega)]; exact h2.1, ?_⟩
  by_cases c : j = q
  · subst c
    rw [show 2 * j + 1 = j * 2 + 1 by omega, List.getElem?_set_self (by omega), hu]
  · rw [List.getElem?_set_ne (by omega), ← e j hj c]; exact h2.2
theorem RgL.notCells {w w' : World} {g : Nat} {L : List Value} {TT : TypeId} {vs : List Value} {W : Nat → Int} {row : Option Nat} (h : RgL w g L TT vs W) (hg : w.grownBy w' row) (hr : ∀ r, row = some r → ∃ o : Obj, w.heap[r]? = some o ∧ o.isCells = false) : RgL w' g L TT vs W := ⟨h.1.notCells hg hr, h.2⟩
/-- An own slice of regulators as a block. -/
theorem OwnR.rgl {E : TypeId} {base : Nat} {w : World} {v : Value} {vs : List Value} (h : OwnR p2v 2 E base w v (regL vs)) (hne : 0 < vs.length) : ∃ g cap L, v = .slice (some ⟨g, 0, none⟩) vs.length cap ∧ vs.length ≤ cap ∧ base ≤ g ∧ RgL w g L E vs (fun _ => 0) := by
  obtain ⟨h0, h1, h2⟩ := h
  rw [regL_len] at *
  rcases h2 with ⟨rfl, h2⟩ | ⟨g, cap, cur, rfl, hb, hh, hn, hm, hs, ht⟩
  · omega
  · refine ⟨g, cap, cur.toList, rfl, hn, hb, by unfold Bx; simpa using hh, by simp; omega, fun q hq => ?_⟩
    have hf := row_flat_get (f := p2v) (n := 2) p2v_len (regL vs) q (by rw [regL_len]; exact hq)
    have e : (regL vs)[q]'(by rw [regL_len]; exact hq) = (vs.getD q undef, 0) := by
      have := regL_get hq
      rw [List.getD_eq_getElem?_getD, List.getElem?_eq_getElem (by rw [regL_len]; exact hq)] at this
      exact this
    rw [e, ← ht] at hf
    have a0 := hf 0 (vs.getD q undef) rfl
    have a1 := hf 1 (.int .i64 0) rfl
    rw [List.getElem?_take_of_lt (by omega)] at a0 a1
    exact ⟨by rw [← a0]; congr 1; omega, by rw [← a1]; congr 1; omega⟩
/-- The numbers of the first ticks. -/
def cumL (F : Nat → Int) (k : Nat) : List Value := (List.range k).map fun t => .int .i64 (F (t + 1))
theorem cumL_succ (F : Nat → Int) (k : Nat) : cumL F (k + 1) = cumL F k ++ [.int .i64 (F (k + 1))] := by simp [cumL, List.range_succ]
theorem cumL_len (F : Nat → Int) (k : Nat) : (cumL F k).length = k := by simp [cumL]
theorem cum_ints {E : TypeId} {base : Nat} {w : World} {v : Value} {F : Nat → Int} {n : Nat} (h : OwnV E base w v (cumL F n)) : Ints w v ((List.range n).map fun t => F (t + 1)) := by
  have e : cumL F n = ((List.range n).map fun t => F (t + 1)).map (Value.int .i64) := by simp [cumL]
  rw [e] at h
  have h2 : Own E base w v ((List.range n).map fun t => F (t + 1)) := by unfold OwnV at h; unfold Own; simpa using h
  exact h2.ints
/-- What holds before each tick. -/
def RunI (w0 : World) (B m b1 b4 b5 b6 b7 b8 g : Nat) (T1 T4 T6 TI TG : TypeId) (vs : List Value) (dv cv rgv : Value) (F : Nat → Int) (c : Nat → Nat → Int) (pre : List Value) (A : World) : Prop :=
  ∃ dmv dlv L, Bx A b4 [dmv] T4 ∧ Bx A b5 [dlv] T4 ∧ TwoV TI B A dmv dlv (cumL F pre.length) (cumL (cO F c m) pre.length) ∧ Bx A b6 [rgv] T6 ∧ Bx A b7 [.int .i64 (F pre.length)] TI ∧ Bx A b8 [.int .i64 (cO F c m pre.length)] TI ∧
    RgL A g L TG vs (fun q => cO F c q pre.length - cO F c (q + 1) pre.length) ∧ Bx A b1 [dv, cv] T1 ∧ Ex w0 A
theorem RunI.own {w0 : World} {B m b1 b4 b5 b6 b7 b8 g : Nat} {T1 T4 T6 TI TG : TypeId} {vs : List Value} {dv cv rgv : Value} {F : Nat → Int} {c : Nat → Nat → Int} {b : Nat} (h : w0.heap.size ≤ b) : OwnFrom b (RunI w0 B m b1 b4 b5 b6 b7 b8 g T1 T4 T6 TI TG vs dv cv rgv F c) := by
  rintro s A A' row ⟨dmv, dlv, L, h1, h2, h3, h4, h5, h6, h7, h8, h9⟩ hg hr
  have hr' := fun r e => (hr r e).2
  exact ⟨dmv, dlv, L, h1.notCells hg hr', h2.notCells hg hr', h3.notCells hg hr', h4.notCells hg hr', h5.notCells hg hr', h6.notCells hg hr', h7.notCells hg hr', h8.notCells hg hr', Ex.of_grown h9 hg fun k hk => by have := (hr k hk).1; omega⟩
/-- What holds in a tick, before its body. -/
def RunZ (B n nd nc : Nat) (T9 : TypeId) (Dm Cp : Nat → List Int) (pre : List Value) (x : Value) (b9 : Nat) (A : World) : Prop :=
  ∃ d cc, x = .agg #[d, cc] ∧ B ≤ b9 ∧ Bx A b9 [d, cc] T9 ∧ pre.length < n ∧ (Ints A d (atL Dm pre.length nd) ∧ ∀ k, d.ownBlock = some k → B ≤ k) ∧ (Ints A cc (atL Cp pre.length nc) ∧ ∀ k, cc.ownBlock = some k → B ≤ k)
theorem RunZ.own {B n nd nc : Nat} {T9 : TypeId} {Dm Cp : Nat → List Int} {b b9 : Nat} : OwnFrom b (fun (p : List Value × Value) A => RunZ B n nd nc T9 Dm Cp p.1 p.2 b9 A) := by
  rintro ⟨pre, x⟩ A A' row ⟨d, cc, h2, h3, h4, h5, ⟨h6, h6'⟩, ⟨h7, h7'⟩⟩ hg hr
  have hr' := fun r e => (hr r e).2
  exact ⟨d, cc, h2, h3, h4.notCells hg hr', h5, ⟨Ints.kc (KC.grown hg hr') h6, h6'⟩, ⟨Ints.kc (KC.grown hg hr') h7, h7'⟩⟩
end Go.Pv
namespace Go.Proofs.Ytlphfobpheefkaa
open Go.Pv Go.RowKit Go.Sort
set_option maxHeartbeats 8000000
set_option maxRecDepth 20000
theorem run_any (pv rv dv cv : Value) (us vs ds cs : List Value) (pls rs : List (List (Int × Int))) (Dm Cp : Nat → List Int) (n : Nat) (w : World) (h : Vals w pv us) (hx : BLs w us pls) (h2 : Vals w rv vs) (hx2 : BLs w vs rs) (hrl : 1 ≤ rs.length ∧ rs.length ≤ 3) (hd : Vals w dv ds) (hc : Vals w cv cs)
    (hD : ∀ j, j < ds.length → Ints w (ds.getD j undef) (Dm j) ∧ (Dm j).length = n) (hC : ∀ j, j < cs.length → Ints w (cs.getD j undef) (Cp j) ∧ (Cp j).length = n) (hdl : 1 ≤ ds.length ∧ ds.length ≤ 3) (hcl : cs.length = rs.length) (hn : n ≤ 400)
    (hDa : ∀ j, j < ds.length → ∀ q, q < n → 0 ≤ (Dm j).getD q 0 ∧ (Dm j).getD q 0 ≤ 1000000) (hCa : ∀ j, j < cs.length → ∀ q, q < n → 0 ≤ (Cp j).getD q 0 ∧ (Cp j).getD q 0 ≤ 1000000) :
    Ret Try.prog 52 [.agg #[pv, rv], .agg #[dv, cv]] w fun r w' => ∃ dmv dlv, r = .tuple #[dmv, dlv] ∧ Ints w' dmv ((List.range n).map fun t => inN Dm ds.length (t + 1)) ∧ Ints w' dlv ((List.range n).map fun t => cO (inN Dm ds.length) (cpN Cp) rs.length (t + 1)) := by
  have hp1 := h.one
  have hr1 := h2.one
  have hd1 := hd.one
  have hc1 := hc.one
  have hvl := hx2.1
  have tk2 : True := trivial
  refine ret_of_c Try.func52 rfl Try.ntmps52 (Nat.le_of_ble_eq_true rfl) (by dsimp only [ini, Nat.reduceAdd] <;> exact rfl) ?_
  repeat' (first
      | (clear tk2; (with_reducible apply W_box); exact rfl; exact rfl; intro b2 wq hbq he hnq; have hltq := Bx.lt hbq; have hsz := he.size; have hx2' : Bx wq b2 [pv, rv] 55 := hbq; have tk3 : True := trivial)
      | (clear tk3; (with_reducible apply W_box); exact rfl; exact rfl; intro b3 wq hbq he hnq; have hltq := Bx.lt hbq; have hsz := he.size; have hx3 : Bx wq b3 [dv, cv] 59 := hbq; have tk4 : True := trivial)
      | (clear tk4; (with_reducible apply W_alloc); exact rfl; intro b4 wq hbq he hnq; have hltq := Bx.lt hbq; have hsz := he.size; have hx4 : Bx wq b4 [.slice none 0 0] 30 := hbq; have hx3 := Bx.ex he hx3; have tk5 : True := trivial)
      | (clear tk5; (with_reducible apply W_alloc); exact rfl; intro b5 wq hbq he hnq; have hltq := Bx.lt hbq; have hsz := he.size; have hx5 : Bx wq b5 [.slice none 0 0] 30 := hbq; have hx3 := Bx.ex he hx3; have hx4 := Bx.ex he hx4; have tk6 : True := trivial)
      | (clear tk6; refine W_call (regulatorsOf_any pv rv vs _ (Vals.ex (show Ex w _ from (by repeat (first | exact Ex.refl _ | assumption | (refine Ex.of_grown ?_ (by assumption) (by intro k hk; cases hk; omega)) | (refine Ex.trans ?_ (by assumption))))) h2) hp1 hx2.one (by omega)) rfl ?_; rintro regs wB hregs heB; have hsz := heB.size; have hrg1 := OwnR.one hregs; (obtain ⟨g, cap, L, rfl, hcap, hgb, hrgl⟩ := OwnR.rgl hregs (by omega)); have hlg := Bx.lt hrgl.1; (have hx4 := Bx.ex heB hx4); (have hx5 := Bx.ex heB hx5); (have hx3 := Bx.ex heB hx3); (have hewB : Ex w wB := (show Ex w _ from (by repeat (first | exact Ex.refl _ | assumption | (refine Ex.of_grown ?_ (by assumption) (by intro k hk; cases hk; omega)) | (refine Ex.trans ?_ (by assumption)))))); have tk7 : True := trivial)
      | (clear tk7; (with_reducible apply W_alloc); exact rfl; intro b6 w6 hx6 he6 hn6; have hlt6 := Bx.lt hx6; have hsz := he6.size; have tk8 : True := trivial)
      | (clear tk8; (with_reducible apply W_store); exact rfl; exact hx6; exact Nat.le_of_ble_eq_true rfl; ((conv => lhs; whnf) <;> exact rfl); exact rfl; simp only [lset]; intro w6b hx6 hgq; have hsz := hgq.size; (have he6b : Ex wB w6b := Ex.of_grown he6 hgq (by intro k hk; cases hk; omega)); have tk9 : True := trivial)
      | (clear tk9; (with_reducible apply W_alloc); exact rfl; intro b7 w7 hx7 he7 hn7; have hlt7 := Bx.lt hx7; have hsz := he7.size; have tkA : True := trivial)
      | (clear tkA; (with_reducible apply W_alloc); exact rfl; intro b8 w8 hx8 he8 hn8; have hlt8 := Bx.lt hx8; have hsz := he8.size; have tkB : True := trivial)
      | (clear tkB; refine W_store (b := b7) (o := 0) (v := .int .i64 0) rfl (Bx.ex he8 hx7) (Nat.zero_lt_succ _) rfl rfl ?_; intro w7b hx7 hg7; have hsz := hg7.size; (have hx8 := Bx.grown hx8 hg7 (by simp; omega)); have tkC : True := trivial)
      | (clear tkC; refine W_store (b := b8) (o := 0) (v := .int .i64 0) rfl hx8 (Nat.zero_lt_succ _) rfl rfl ?_; intro w8b hx8 hg8; have hsz := hg8.size; (have hx7 := Bx.grown hx7 hg8 (by simp; omega)); (have he8b : Ex w6b w8b := Ex.of_grown (Ex.of_grown (he7.trans he8) hg7 (by intro k hk; cases hk; omega)) hg8 (by intro k hk; cases hk; omega)); (have hwB8 := he6b.trans he8b); (have hx4 := Bx.ex hwB8 hx4); (have hx5 := Bx.ex hwB8 hx5); (have hx3 := Bx.ex hwB8 hx3); (have hrgl := RgL.ex hwB8 hrgl); (have hx6 := Bx.ex he8b hx6); (have hew8 := hewB.trans hwB8); have tkD : True := trivial)
      | (have _ := tkD; (with_reducible apply W_op); exact rfl; exact rfl; exact r_loadA rfl (Bx.cells hx3) rfl)
      | (clear tkD; refine W_call (ticks_any dv cv ds cs _ (Vals.ex hew8 hd) (Vals.ex hew8 hc)) rfl ?_; rintro vq wt ⟨b1, rfl, hx1, hlb1⟩ het; have hsz := het.size; have hl1 := Bx.lt hx1; (have hx4 := Bx.ex het hx4); (have hx5 := Bx.ex het hx5); (have hx6 := Bx.ex het hx6); (have hx7 := Bx.ex het hx7); (have hx8 := Bx.ex het hx8); (have hrgl := RgL.ex het hrgl); (have hewt := hew8.trans het))
      | ((first | ((with_reducible apply W_op); exact rfl; exact rfl) | ((with_reducible apply WQ_op); exact rfl; exact rfl; intro wq he) | ((with_reducible apply WM_op); exact rfl; exact rfl; intro wq he) | ((with_reducible apply WB_op); exact rfl; exact rfl; intro wq)); (first | ((with_reducible apply r_loadA); exact rfl; (first | assumption | exact Bx.cells (by repeat (first | assumption | ((with_reducible apply Bx.grownS); assumption; (first | omega | exact Bx.ne (by assumption) (by omega))) | ((with_reducible apply Bx.below); assumption; omega) | ((with_reducible apply Bx.ex); assumption))) | exact Cells.ex (by assumption) (by assumption)); exact rfl)))
      | (with_reducible apply W_nil)
      | (with_reducible apply c_seq)
      | ((with_reducible apply c_region); kernel_rfl)
      | (with_reducible apply n_nq)
      | (with_reducible apply c_block)
      | (with_reducible apply n_then))
  obtain ⟨F, hF⟩ : ∃ F, inN Dm ds.length = F := ⟨_, rfl⟩
  rw [hF]
  have hFb := hF ▸ inN_bd hdl.2 hDa
  have hFm := hF ▸ inN_mono hdl.2 hDa
  have hF0 : F 0 = 0 := by rw [← hF]; rfl
  have hcn : ∀ j, j < rs.length → ∀ k, k < n → 0 ≤ cpN Cp j k := fun j hj k hk => (hCa j (by omega) k hk).1
  have hcp := fun q (hq : q ≤ rs.length) => cO_props (F := F) (c := cpN Cp) (N := n) hFm hF0 q (fun j hj => hcn j (by omega))
  refine c_rangeAZ (ps := [16]) (vs := fun x : Value => [x]) (B := w.heap.size) (gf := 95) (lb := #[.pointer (some ⟨b1, 0, none⟩)]) (fun L x b => upd (upd L 16 x) 9 (.pointer (some ⟨b, 0, none⟩))) (RunZ (b1 + 1) n ds.length cs.length 123 Dm Cp) rfl (enters_of Try.func95 (by kernel_rfl) rfl) (ticks1_seq dv cv ds cs Dm Cp n b1 w wt hd hc hD hC hdl (by omega) hn ⟨hewt, hx1⟩) (fun b => RunZ.own) (fun h k hA => k (h hA)) (fun A i o o' hi hA ho _ hF => hF.put (by omega) hA ho) (fun _ => rfl) (by repeat (first | assumption | exact Al.nil _ _ | ((with_reducible apply Al.grownS); assumption; (focus ((repeat (first | assumption | ((with_reducible apply Bx.grownS); assumption; (first | omega | exact Bx.ne (by assumption) (by omega))) | ((with_reducible apply Bx.below); assumption; omega) | ((with_reducible apply Bx.ex); assumption))); done))) | (refine Al.ex (by assumption) ?_))) (by omega)
      (RunI w (b1 + 1) rs.length b1 b4 b5 b6 b7 b8 g 59 30 117 3 126 vs dv cv (.slice (some ⟨g, 0, none⟩) vs.length cap) F (cpN Cp)) (fun _ _ _ => False) (RunI.own (by omega)) (fun c s A A' row hs _ _ => hs) ⟨_, _, L, hx4, hx5, TwoV.nil _ _ _, hx6, (by rw [show F ([] : List Value).length = 0 from hF0]; exact hx7), (by rw [show cO F (cpN Cp) rs.length ([] : List Value).length = 0 from (hcp _ (Nat.le_refl _)).2.1]; exact hx8), hrgl.congr (fun q hq => by show 0 = cO F (cpN Cp) q 0 - cO F (cpN Cp) (q + 1) 0; rw [(hcp q (by omega)).2.1, (hcp (q + 1) (by omega)).2.1]; rfl), hx1, hewt⟩ ?assign ?body ?done ?stop
  case assign =>
    rintro i pre x A K ⟨dmv, dlv, L, hx4A, hx5A, htw, hx6A, hx7A, hx8A, hrgA, hx1A, heA⟩ ⟨hpl, d, cc, rfl, ⟨hid, hidb⟩, hic, hicb⟩ hK
    have hid1 := hid.one
    have hic1 := hic.one
    have hlb1 := Bx.lt hx1A
    have hszA := heA.size
    have tkA : True := trivial
    repeat' (first
        | (clear tkA; (with_reducible apply W_alloc); exact rfl; intro b9 w9 hb9 he9 hn9; have hl9 := Bx.lt hb9; have hsz := he9.size; have tkB : True := trivial)
        | (clear tkB; (with_reducible apply W_storeA); exact rfl; exact hb9; exact rfl; exact rfl; exact rfl; (repeat' (first | exact trivial | exact rfl | assumption | constructor)); intro wz hb9 hgq; (have hez : Ex A wz := Ex.of_grown he9 hgq (by intro k hk; cases hk; omega)))
        | (with_reducible apply W_nil)
        | ((with_reducible apply c_region); kernel_rfl)
        | (with_reducible apply n_nq))
    exact ⟨_, rfl, hK b9 wz ⟨d, cc, rfl, by omega, hb9, hpl, ⟨IntsK.ex hez hid, hidb⟩, IntsK.ex hez hic, hicb⟩ ⟨dmv, dlv, L, Bx.ex hez hx4A, Bx.ex hez hx5A, htw.ex hez, Bx.ex hez hx6A, Bx.ex hez hx7A, Bx.ex hez hx8A, hrgA.ex hez, Bx.ex hez hx1A, heA.trans hez⟩ (keeps_of_ex hez) (fun hA => hA.ex hez)⟩
  case body =>
    rintro i pre x b9 A ⟨dmv, dlv, L, hx4A, hx5A, htw, hx6A, hx7A, hx8A, hrgA, hx1A, heA⟩ ⟨d, cc, rfl, hB9, hx9, hpl, ⟨hid, hidb⟩, hic, hicb⟩
    obtain ⟨k, hk⟩ : ∃ k, pre.length = k := ⟨_, rfl⟩
    rw [hk] at hpl htw hx7A hx8A hrgA hid hic
    have hszA := heA.size
    have hlb1 := Bx.lt hx1A
    have hdbd := dAt_bd (nd := ds.length) (k := k) hpl hdl.2 hDa
    have htot := fun w2 (e : Ex A w2) => total_any d (atL Dm k ds.length) w2 (IntsK.ex e hid) (by rw [atL_len]; omega) (fun j _ => by have := atL_nn (nd := ds.length) hpl hDa j; omega)
    rw [atL_len] at htot
    obtain ⟨D, hDe⟩ : ∃ D, dAt Dm ds.length k = D := ⟨_, rfl⟩
    rw [show sumTo (atL Dm k ds.length) ds.length = D from hDe] at htot
    rw [hDe] at hdbd
    have hFk : F (k + 1) = F k + D := by rw [← hF, ← hDe]; rfl
    have hFk0 := hFb k (by omega)
    have hFk1 := hFb (k + 1) (by omega)
    have hic1 := hic.one
    have tkA : True := trivial
    repeat' (first
        | (clear tkA; refine W_call (htot _ (show Ex A _ from (by repeat (first | exact Ex.refl _ | assumption | (refine Ex.of_grown ?_ (by assumption) (by intro k hk; cases hk; omega)) | (refine Ex.trans ?_ (by assumption)))))) rfl ?_; rintro vq wc rfl hec; have hsz := hec.size; have tkB : True := trivial)
        | (clear tkB; refine W_store (b := b7) (o := 0) (v := .int .i64 (F k + D)) rfl (Bx.ex (show Ex A _ from (by repeat (first | exact Ex.refl _ | assumption | (refine Ex.of_grown ?_ (by assumption) (by intro k hk; cases hk; omega)) | (refine Ex.trans ?_ (by assumption))))) hx7A) (Nat.zero_lt_succ _) rfl rfl ?_; intro A7 hx7 hg7; have hx7 : Bx A7 b7 [.int .i64 (F k + D)] 3 := hx7; (have hx4 := Bx.grown (Bx.ex hec hx4A) hg7 (by simp; omega)); (have hx5 := Bx.grown (Bx.ex hec hx5A) hg7 (by simp; omega)); (have hx6 := Bx.grown (Bx.ex hec hx6A) hg7 (by simp; omega)); (have hx8 := Bx.grown (Bx.ex hec hx8A) hg7 (by simp; omega)); (have hx1' := Bx.grown (Bx.ex hec hx1A) hg7 (by simp; omega)); (have hx9' := Bx.grown (Bx.ex hec hx9) hg7 (by simp; omega)); (have htw7 := TwoV.grownS hg7 (by omega) (htw.ex hec)); (have hrg7 := RgL.grown (hrgA.ex hec) hg7 (by omega)); (have hic7 := Ints.keptB (IntsK.ex hec hic) hg7 (ne_of_low hicb (by omega))); (have heA7 : Ex w A7 := Ex.of_grown (heA.trans hec) hg7 (by intro k hk; cases hk; omega)); (have hk7 := (keeps_of_ex hec).trans (keeps_gr hg7 (Bx.ex hec hx7A))); have hsz := hg7.size; (have hrg7 := RgL.congr (W' := fun j => if j < 0 then cO F (cpN Cp) j (k + 1) - cO F (cpN Cp) (j + 1) (k + 1) else cO F (cpN Cp) j k - cO F (cpN Cp) (j + 1) k) hrg7 (fun q hq => by rw [if_neg (by omega)])); have tkC : True := trivial)
        | ((with_reducible (show C _ _ _ _ _ _)); clear tkC; refine c_loopG (fun (q : Nat) ps wr => ∃ f : Int, ∃ i : Int, ∃ Lq : List Value, ps = [(4, .pointer (some ⟨b4, 0, none⟩)), (5, .pointer (some ⟨b5, 0, none⟩)), (6, .pointer (some ⟨b6, 0, none⟩)), (7, .pointer (some ⟨b7, 0, none⟩)), (8, .pointer (some ⟨b8, 0, none⟩)), (9, .pointer (some ⟨b9, 0, none⟩)), (10, .int .i64 f), (24, .int .i64 (vs.length : Int)), (25, .int .i64 i)] ∧ f = cO F (cpN Cp) q (k + 1) - cO F (cpN Cp) q k ∧ i = q ∧ q ≤ vs.length ∧ RgL wr g Lq 126 vs (fun j => if j < q then cO F (cpN Cp) j (k + 1) - cO F (cpN Cp) (j + 1) (k + 1) else cO F (cpN Cp) j k - cO F (cpN Cp) (j + 1) k) ∧ A7.grownBy wr (some g) ∧ KeepsOthers A wr ∧ Ex w wr) (fun q => vs.length - q) 0 _ ⟨_, _, _, rfl, (show D = F (k + 1) - F k by omega), rfl, Nat.zero_le _, hrg7, World.grownBy_refl' _ _, hk7, heA7⟩ ⟨rfl, rfl, rfl, rfl, rfl, rfl, rfl, rfl, rfl, trivial⟩ (by ((conv => lhs; whnf) <;> exact rfl)) (by ((conv => lhs; whnf) <;> exact rfl)) ?_; rintro J hJ q u ps wr ⟨f, i, Lq, rfl, rfl, rfl, hq, hrg, hG, hko, he⟩; have hsz := he.size; have tkE : True := trivial)
        | (clear tkE; (have hGs := hG.size); (have hx6w := Bx.grown hx6 hG (by simp; omega)); (by_cases hqv : q < vs.length; (have hrq := hrg.2.2 q hqv); (have hrl2 := hrg.2.1); (have hcc := Ints.keptB hic7 hG (ne_of_low hicb (by omega))); (have hx9w := Bx.grown hx9' hG (by simp; omega)); (have hpq := hcp q (by omega)); (have hpq1 := hcp (q + 1) (by omega)); (have hw0 := hpq.1 k hpl); (have hw1 := (hpq.2.2 k (by omega))); (have hw2 := (hpq.2.2 (k + 1) (by omega))); (have hw3 := (hpq1.2.2 k (by omega))); (have hce := atL_get (f := Cp) (i := k) (n := cs.length) (j := q) (by omega)); (have hcl2 := atL_len Cp k cs.length); (have hcb := hCa q (by omega) k hpl); (have hout : cO F (cpN Cp) (q + 1) (k + 1) = min (cO F (cpN Cp) q (k + 1)) (cO F (cpN Cp) (q + 1) k + (Cp q).getD k 0) := rfl); (have hle1 := out_le (A := cO F (cpN Cp) q) (c := cpN Cp q) (by omega) k); (have hle1 : cO F (cpN Cp) (q + 1) k ≤ cO F (cpN Cp) q k := hle1); (have hwt : Lq[q * 2 + 1]? = some (.int .i64 (cO F (cpN Cp) q k - cO F (cpN Cp) (q + 1) k)) := (by have h9 := hrq.2; simp only [Nat.lt_irrefl, if_false] at h9; rw [show q * 2 + 1 = 2 * q + 1 by omega]; exact h9)); (have tkF : True := trivial); rotate_left 1; (have hqe : q = rs.length := (by omega)); subst hqe; (have hx8w := Bx.grown hx8 hG (by simp; omega)); (have hpm := hcp rs.length (Nat.le_refl _)); (have hm0 := hpm.1 k hpl); (have hm1 := hpm.2.2 k (by omega)); (have hm2 := hpm.2.2 (k + 1) (by omega)); (obtain ⟨O0, hO0⟩ : ∃ O0, cO F (cpN Cp) rs.length k = O0 := ⟨_, rfl⟩); (obtain ⟨O1, hO1⟩ : ∃ O1, cO F (cpN Cp) rs.length (k + 1) = O1 := ⟨_, rfl⟩); rw [hO0] at hm0 hm1 hx8w; rw [hO1] at hm0 hm2; (have tkG : True := trivial)))
        | ((with_reducible apply c_cond_dec); exact rfl; intro _; rotate_left 1; intro _; (all_goals (try (exfalso; (focus (omega; done))))))
        | (have _ := tkF; refine c_mixX (id := 10) [] [0, 1, 2, 3, 4, 5, 6, 7, 8] 2 #[true, true, true, true, true, true, true, true, true, false, false] [false, false, false, false, false, false, false, false, false, false, false] [true, true, true, true, true, true, true, true, true, false, false] (by kernel_rfl) (by kernel_rfl) (by kernel_rfl) (by dsimp only [sel] <;> exact rfl) (by dsimp only [sel] <;> exact rfl) ?_)
        | (have _ := tkF; (with_reducible apply WM_op); exact rfl; exact rfl; (intro wq he; exact r_load rfl rfl ((Bx.cell (Bx.ex he hx6w) _).trans rfl)))
        | (have _ := tkF; (with_reducible apply WM_op); exact rfl; exact rfl; (intro wq he; exact r_indexBx4 (i := q) rfl rfl (by omega)))
        | (have _ := tkF; (with_reducible apply WM_op); exact rfl; exact rfl; (intro wq he; exact r_load rfl rfl ((Bx.cell (Bx.ex he hx9w) _).trans rfl)))
        | (have _ := tkF; (with_reducible apply WM_indexInt); exact rfl; exact hcc; exact rfl; omega; (intro pq hpqc; rw [hce] at hpqc))
        | (have _ := tkF; (with_reducible apply WM_op); exact rfl; exact rfl; (intro wq he; exact r_load rfl rfl (Ex.cell he hpqc)))
        | (have _ := tkF; refine W_callR (pass_any g (q * 2) Lq 126 (cO F (cpN Cp) q k - cO F (cpN Cp) (q + 1) k) (cO F (cpN Cp) q (k + 1) - cO F (cpN Cp) q k) ((Cp q).getD k 0) _ (Bx.ex (show Ex wr _ from (by repeat (first | exact Ex.refl _ | assumption | (refine Ex.of_grown ?_ (by assumption) (by intro k hk; cases hk; omega)) | (refine Ex.trans ?_ (by assumption))))) hrg.1) (by omega) hwt (by omega) (by omega) (by omega)) rfl ?_; rintro vq wz ⟨rfl, hgz, hgq⟩; (obtain ⟨wp, hep, hgp⟩ : ∃ wp, Ex wr wp ∧ wp.grownBy wz (some g) := ⟨_, (show Ex wr _ from (by repeat (first | exact Ex.refl _ | assumption | (refine Ex.of_grown ?_ (by assumption) (by intro k hk; cases hk; omega)) | (refine Ex.trans ?_ (by assumption))))), hgq⟩); (have hGz := (hG.trans' (Ex.grownTo hep (some g))).trans' hgp); (have hkoz := (hko.trans (keeps_of_ex hep)).trans (keeps_gr hgp (Bx.ex hep hrg.1))); (have hez : Ex w wz := Ex.of_grown heA7 hGz (by intro k hk; cases hk; omega)); have hsz := hGz.size; (have hrgz := RgL.set (W' := fun j => if j < q + 1 then cO F (cpN Cp) j (k + 1) - cO F (cpN Cp) (j + 1) (k + 1) else cO F (cpN Cp) j k - cO F (cpN Cp) (j + 1) k) hrg hqv hgz (by show (if q < q + 1 then _ else _) = _; rw [if_pos (Nat.lt_succ_self q)]; omega) (fun j hj hne => by by_cases hjq : j < q; (rw [if_pos hjq, if_pos (by omega)]); (rw [if_neg hjq, if_neg (by omega)]))))
        | (have _ := tkG; (with_reducible apply W_op); exact rfl; exact rfl; exact r_load rfl rfl ((Bx.cell hx8w _).trans rfl))
        | (clear tkG; refine W_store (b := b8) (o := 0) (v := .int .i64 O1) rfl hx8w (Nat.zero_lt_succ _) (congrArg (Value.int .i64) (by rw [hO0, hO1]; omega)) rfl ?_; intro A8 hx8 hg8; have hx8 : Bx A8 b8 [.int .i64 O1] 3 := hx8; (have hx4 := Bx.grown (Bx.grown hx4 hG (by simp; omega)) hg8 (by simp; omega)); (have hx5 := Bx.grown (Bx.grown hx5 hG (by simp; omega)) hg8 (by simp; omega)); (have hx6 := Bx.grown hx6w hg8 (by simp; omega)); (have hx7 := Bx.grown (Bx.grown hx7 hG (by simp; omega)) hg8 (by simp; omega)); (have hx1' := Bx.grown (Bx.grown hx1' hG (by simp; omega)) hg8 (by simp; omega)); (have htw8 := TwoV.grownS hg8 (by omega) (TwoV.grownS hG (by omega) htw7)); (have hrg8 := RgL.grown hrg hg8 (by omega)); (have heA8 : Ex w A8 := Ex.of_grown he hg8 (by intro k hk; cases hk; omega)); (have hko8 := hko.trans (keeps_gr hg8 hx8w)); have hsz := hg8.size; (have hdlt := htw8.1.lt); (have hllt := htw8.2.1.lt); have tkH : True := trivial)
        | (have _ := tkH; refine c_mixR (id := 13) (keepN (b1 + 1)) [0, 1, 4, 5] [0, 1, 4, 5] 6 #[true, true, false, false, true, true, false, false, false, false] [some true, some true, none, none, some true, some true, none, none, none, none] (by kernel_rfl) (by kernel_rfl) (by kernel_rfl) (by dsimp only [selT] <;> exact rfl) ?_)
        | (have _ := tkH; (with_reducible apply WMR_op); exact rfl; exact rfl; (intro wq hkb; have hkb := hkb rfl; first | exact r_load rfl rfl ((Bx.cell (Bx.below hkb (by omega) hx4) _).trans rfl) | exact r_load rfl rfl ((Bx.cell (Bx.below hkb (by omega) hx5) _).trans rfl) | exact r_load rfl rfl ((Bx.cell (Bx.below hkb (by omega) hx7) _).trans rfl) | exact r_load rfl rfl ((Bx.cell (Bx.below hkb (by omega) hx8) _).trans rfl)))
        | (have _ := tkH; (with_reducible apply W_bs1); ((conv => lhs; whnf) <;> exact rfl); exact rfl; decide; decide; exact rfl; exact rfl; ((simp only [lay, lset, List.replicate_succ, List.replicate_zero]) <;> exact rfl); intro b44 wq hbq he hn44; (have hb44 : Bx wq b44 [.int .i64 (F k + D)] 3 := hbq); have hlt44 := Bx.lt hb44; have hsz := he.size; (have hg44 : A8.heap.size ≤ b44 := (by omega)); (try (have hb48 := Bx.ex he hb48)); have tkI : True := trivial)
        | (have _ := tkH; (with_reducible apply W_bs1); ((conv => lhs; whnf) <;> exact rfl); exact rfl; decide; decide; exact rfl; exact rfl; ((simp only [lay, lset, List.replicate_succ, List.replicate_zero]) <;> exact rfl); intro b48 wq hbq he hn48; (have hb48 : Bx wq b48 [.int .i64 O1] 3 := hbq); have hlt48 := Bx.lt hb48; have hsz := he.size; (have hg48 : A8.heap.size ≤ b48 := (by omega)); (try (have hb44 := Bx.ex he hb44)))
        | (have _ := tkI; clear tkI; refine W_appendF (w0 := w) (base := b1 + 1) (v := dmv) (m := .int .i64 (F k + D)) (xs := cumL F k) rfl rfl rfl (OwnV.ex (show Ex A8 _ from (by repeat (first | exact Ex.refl _ | assumption | (refine Ex.of_grown ?_ (by assumption) (by intro k hk; cases hk; omega)) | (refine Ex.trans ?_ (by assumption))))) htw8.1) rfl hb44 (by rw [cumL_len]; omega) (show Ex w _ from (by repeat (first | exact Ex.refl _ | assumption | (refine Ex.of_grown ?_ (by assumption) (by intro k hk; cases hk; omega)) | (refine Ex.trans ?_ (by assumption))))) (by omega) (by omega) ?_; intro dmv2 A9 hdm2 he2 hkn hgqA hbl2; have hdm21 := hdm2.one; (obtain ⟨wx, hxA, hgA, hbA, hkA⟩ : ∃ wx, Ex A8 wx ∧ wx.grownBy A9 dmv.ownBlock ∧ (dmv2.ownBlock = dmv.ownBlock ∨ dmv2.ownBlock = some wx.heap.size) ∧ Below (b1 + 1) wx A9 := ⟨_, (show Ex A8 _ from (by repeat (first | exact Ex.refl _ | assumption | (refine Ex.of_grown ?_ (by assumption) (by intro k hk; cases hk; omega)) | (refine Ex.trans ?_ (by assumption))))), hgqA, hbl2, hkn⟩); (have htw9 := TwoV.updA (htw8.ex hxA) hgA hdm2 hbA); (try (have hb48 := Bx.grown hb48 hgqA (fun e => by have := (hdlt _ e.symm).2; omega))); have hsz := hgA.size; have hszx := hxA.size; (have hkA8 : Below (b1 + 1) A8 A9 := (Below.mono (Ex.below hxA) (by omega)).trans hkA); (have hko9 := (hko8.trans (keeps_of_ex hxA)).trans (keeps_of_ownV (htw8.ex hxA).1 hgA)); have tkJ : True := trivial)
        | (have _ := tkJ; refine W_appendF (w0 := w) (base := b1 + 1) (v := dlv) (m := .int .i64 O1) (xs := cumL (cO F (cpN Cp) rs.length) k) rfl rfl rfl (OwnV.ex (show Ex A9 _ from (by repeat (first | exact Ex.refl _ | assumption | (refine Ex.of_grown ?_ (by assumption) (by intro k hk; cases hk; omega)) | (refine Ex.trans ?_ (by assumption))))) htw9.2.1) rfl hb48 (by rw [cumL_len]; omega) (show Ex w _ from (by repeat (first | exact Ex.refl _ | assumption | (refine Ex.of_grown ?_ (by assumption) (by intro k hk; cases hk; omega)) | (refine Ex.trans ?_ (by assumption))))) (by omega) (by omega) ?_; intro dlv2 A10 hdl2 he3 hkn3 hgqB hbl3; have hdl21 := hdl2.one; (obtain ⟨wy, hyA, hgB, hbB, hkB⟩ : ∃ wy, Ex A9 wy ∧ wy.grownBy A10 dlv.ownBlock ∧ (dlv2.ownBlock = dlv.ownBlock ∨ dlv2.ownBlock = some wy.heap.size) ∧ Below (b1 + 1) wy A10 := ⟨_, (show Ex A9 _ from (by repeat (first | exact Ex.refl _ | assumption | (refine Ex.of_grown ?_ (by assumption) (by intro k hk; cases hk; omega)) | (refine Ex.trans ?_ (by assumption))))), hgqB, hbl3, hkn3⟩); (have htw10 := (TwoV.updA (htw9.ex hyA).swap hgB hdl2 hbB).swap); have hsz := hgB.size; have hszy := hyA.size; (have hkA10 : Below (b1 + 1) A8 A10 := (hkA8.trans (Below.mono (Ex.below hyA) (by omega))).trans hkB); (have hko10 := (hko9.trans (keeps_of_ex hyA)).trans (keeps_of_ownV (htw9.ex hyA).2.1 hgB)); have tkK : True := trivial)
        | (have _ := tkK; refine W_store (b := b4) (o := 0) (v := dmv2) rfl (Bx.below hkA10 (by omega) hx4) (Nat.zero_lt_succ _) rfl hdm21 ?_; intro A11 hx4z hg11; have hx4z : Bx A11 b4 [dmv2] 30 := hx4z; have hsz := hg11.size; clear tkK; have tkL : True := trivial)
        | (clear tkL; refine W_store (b := b5) (o := 0) (v := dlv2) rfl (Bx.grown (Bx.below hkA10 (by omega) hx5) hg11 (by simp; omega)) (Nat.zero_lt_succ _) rfl hdl21 ?_; intro A12 hx5z hg12; have hx5z : Bx A12 b5 [dlv2] 30 := hx5z; have hsz := hg12.size)
        | ((first | ((with_reducible apply W_op); exact rfl; exact rfl) | ((with_reducible apply WQ_op); exact rfl; exact rfl; intro wq he) | ((with_reducible apply WM_op); exact rfl; exact rfl; intro wq he) | ((with_reducible apply WB_op); exact rfl; exact rfl; intro wq)); (first | ((with_reducible apply r_move); ((conv => lhs; whnf) <;> exact rfl)) | ((with_reducible apply r_assign); ((conv => lhs; whnf) <;> exact rfl)) | ((with_reducible apply r_fieldAddr); exact rfl) | ((with_reducible apply r_load); exact rfl; exact rfl; (first | assumption | exact (Bx.cell (by repeat (first | assumption | ((with_reducible apply Bx.grownS); assumption; (first | omega | exact Bx.ne (by assumption) (by omega))) | ((with_reducible apply Bx.below); assumption; omega) | ((with_reducible apply Bx.ex); assumption))) _).trans rfl | exact Ex.cell (by assumption) (by assumption))) | ((with_reducible apply r_lss); exact rfl; exact rfl) | ((with_reducible apply r_add); exact rfl; exact rfl; omega) | ((with_reducible apply r_len); exact rfl)))
        | ((with_reducible (show Exit.then _ _ _ _ _)); refine n_roundG (q + 1) (hJ _ _ _ _ ⟨_, _, _, rfl, by omega, by omega, by omega, hrgz, hGz, hkoz, hez⟩ ⟨rfl, rfl, rfl, rfl, rfl, rfl, rfl, rfl, rfl, trivial⟩ rfl) (by omega))
        | (refine XT_one (t := 9) (s := true) (listed := #[true, true, true, true, true, true, true, true, true, false, false]) (listed' := #[true, true, true, true, true, true, true, true, true, true, false]) (by kernel_rfl) rfl (by kernel_rfl) (by kernel_rfl) ?_)
        | (refine XT_pure (t := 10) (listed := #[true, true, true, true, true, true, true, true, true, true, false]) (listed' := #[true, true, true, true, true, true, true, true, true, true, true]) (by kernel_rfl) rfl rfl rfl (by kernel_rfl) (by intro wq; ((with_reducible apply r_assign); ((conv => lhs; whnf) <;> exact rfl))) ?_)
        | (with_reducible apply XB_nil)
        | ((with_reducible apply XM_nil); intro wq he; have hsz := he.size)
        | ((with_reducible apply XT_nil); kernel_rfl)
        | (with_reducible apply x_sink)
        | (refine XTR_two (t := 2) (t' := 6) (s := false) (s' := false) (listed := #[true, true, false, false, true, true, false, false, false, false]) (l1 := #[true, true, true, false, true, true, false, false, false, false]) (l1' := #[true, true, false, false, true, true, true, false, false, false]) (by kernel_rfl) rfl rfl (by kernel_rfl) (by kernel_rfl) (by kernel_rfl) (by kernel_rfl) ?_ ?_)
        | (refine XTR_two (t := 3) (t' := 6) (s := false) (s' := false) (listed := #[true, true, true, false, true, true, false, false, false, false]) (l1 := #[true, true, true, true, true, true, false, false, false, false]) (l1' := #[true, true, true, false, true, true, true, false, false, false]) (by kernel_rfl) rfl rfl (by kernel_rfl) (by kernel_rfl) (by kernel_rfl) (by kernel_rfl) ?_ ?_)
        | (refine XTR_one (t := 2) (s := false) (listed := #[true, true, false, false, true, true, true, false, false, false]) (listed' := #[true, true, true, false, true, true, true, false, false, false]) (by kernel_rfl) rfl (by kernel_rfl) (by kernel_rfl) ?_)
        | (refine XTR_one (t := 6) (s := false) (listed := #[true, true, true, true, true, true, false, false, false, false]) (listed' := #[true, true, true, true, true, true, true, false, false, false]) (by kernel_rfl) rfl (by kernel_rfl) (by kernel_rfl) ?_)
        | (refine XTR_one (t := 3) (s := false) (listed := #[true, true, true, false, true, true, true, false, false, false]) (listed' := #[true, true, true, true, true, true, true, false, false, false]) (by kernel_rfl) rfl (by kernel_rfl) (by kernel_rfl) ?_)
        | (refine XTR_one (t := 7) (s := true) (listed := #[true, true, true, true, true, true, true, false, false, false]) (listed' := #[true, true, true, true, true, true, true, true, false, false]) (by kernel_rfl) rfl (by kernel_rfl) (by kernel_rfl) ?_)
        | (refine XTR_one (t := 8) (s := true) (listed := #[true, true, true, true, true, true, true, true, false, false]) (listed' := #[true, true, true, true, true, true, true, true, true, false]) (by kernel_rfl) rfl (by kernel_rfl) (by kernel_rfl) ?_)
        | (refine XTR_one (t := 9) (s := true) (listed := #[true, true, true, true, true, true, true, true, true, false]) (listed' := #[true, true, true, true, true, true, true, true, true, true]) (by kernel_rfl) rfl (by kernel_rfl) (by kernel_rfl) ?_)
        | ((with_reducible apply WMR_nil); intro wq he hszq; have hsz := he.size)
        | ((with_reducible apply XTR_nil); kernel_rfl)
        | (with_reducible apply xR_sink)
        | ((with_reducible apply xR_keep); first | exact (keepN _).refl _ | exact Below.mono (Ex.below he) (by omega) | exact (Below.refl _ _).grown hgq (by omega) (by intro k hk; cases hk; omega) | exact Below.mono hkn (by omega))
        | (with_reducible apply W_nil)
        | (with_reducible apply c_seq)
        | ((with_reducible apply c_region); kernel_rfl)
        | (with_reducible apply n_nq)
        | (with_reducible apply c_block)
        | (with_reducible apply c_skip)
        | (with_reducible apply c_exit)
        | (with_reducible apply n_then)
        | (with_reducible apply n_block)
        | (with_reducible apply e_then)
        | (with_reducible apply e_block))
    all_goals (
      show KeepsOthers _ _ ∧ (_ → _) ∧ RunI _ _ _ _ _ _ _ _ _ _ _ _ _ _ _ _ _ _ _ _ _ _ _
      have mv : ∀ (b : Nat) (cs : List Value) (T : TypeId), b < b1 + 1 → b ≠ b4 → b ≠ b5 → Bx A8 b cs T → Bx A12 b cs T := fun b cs T h1 h2 h3 h => Bx.grown (Bx.grown (Bx.below hkA10 h1 h) hg11 (by simp; omega)) hg12 (by simp; omega)
      have he10 : Ex w A10 := by unfold Ex at heA8 ⊢; exact Below.trans heA8 (Below.mono hkA10 (by omega))
      have hez : Ex w A12 := Ex.of_grown (Ex.of_grown he10 hg11 (by intro k hk; cases hk; omega)) hg12 (by intro k hk; cases hk; omega)
      have hx4z := Bx.grown hx4z hg12 (by simp; omega)
      have hx1z := mv b1 _ _ (by omega) (by omega) (by omega) hx1'
      have hx5k := Bx.grown (Bx.below hkA10 (by omega) hx5) hg11 (by simp; omega)
      refine ⟨(hko10.trans (keeps_gr hg11 (Bx.below hkA10 (by omega) hx4))).trans (keeps_gr hg12 hx5k), fun _ => ⟨hez, hx1z⟩, dmv2, dlv2, Lq, hx4z, hx5z, ?_, mv b6 _ _ (by omega) (by omega) (by omega) hx6, ?_, ?_, ?_, hx1z, hez⟩
      · rw [List.length_append, List.length_singleton, hk, cumL_succ, cumL_succ, hFk, hO1]
        exact (htw10.grownS hg11 (by omega)).grownS hg12 (by omega)
      · rw [List.length_append, List.length_singleton, hk, hFk]
        exact mv b7 _ _ (by omega) (by omega) (by omega) hx7
      · rw [List.length_append, List.length_singleton, hk, hO1]
        exact mv b8 _ _ (by omega) (by omega) (by omega) hx8
      · refine RgL.congr ⟨mv g _ _ (by omega) (by omega) (by omega) hrg8.1, hrg8.2⟩ (fun j hj => ?_)
        rw [List.length_append, List.length_singleton, hk, if_pos (by omega)])
  case done =>
    rintro D xs A hD' hS' ⟨dmv, dlv, L, hx4A, hx5A, htw, hx6A, hx7A, hx8A, hrgA, hx1A, heA⟩ halA
    rw [hS'] at htw
    have hn1 := htw.1.one
    have hn2 := htw.2.1.one
    have hlb1 := Bx.lt hx1A
    -- calls_of_c Try.func52
    have tkP : True := trivial
    have tkQ : True := trivial
    repeat' (first
        | (refine c_mixX (id := 14) [] [] 4 #[false, false, false, false] [false, false, false, false] [false, false, false, false] (by kernel_rfl) (by kernel_rfl) (by kernel_rfl) (by dsimp only [sel] <;> exact rfl) (by dsimp only [sel] <;> exact rfl) ?_)
        | ((with_reducible apply W_op); exact rfl; exact rfl; first | exact r_load rfl rfl ((Bx.cell (Bx.ex (by first | exact Ex.refl _ | assumption) hx4A) _).trans rfl) | exact r_load rfl rfl ((Bx.cell (Bx.ex (by first | exact Ex.refl _ | assumption) hx5A) _).trans rfl))
        | (have _ := tkP; refine W_store (b := b4) (o := 0) (v := dmv) rfl (Bx.ex (by first | exact Ex.refl _ | assumption) hx4A) (Nat.zero_lt_succ _) rfl hn1 ?_; intro wz hx4z hgz; have hx4o := hx4A; clear tkP; (have hx5A := Bx.grown (Bx.ex (by first | exact Ex.refl _ | assumption) hx5A) hgz (by simp; omega)); (have hx4A : Bx wz b4 [dmv] 30 := hx4z); (have htw := TwoV.grownS hgz (by omega) (TwoV.ex (by first | exact Ex.refl _ | assumption) htw)); (have heA : Ex w wz := Ex.of_grown (heA.trans (by first | exact Ex.refl _ | assumption)) hgz (by intro k hk; cases hk; omega)); (have halA := Al.grownS hgz (Bx.ex (by first | exact Ex.refl _ | assumption) hx4o) (Al.ex (by first | exact Ex.refl _ | assumption) halA)))
        | (have _ := tkQ; refine W_store (b := b5) (o := 0) (v := dlv) rfl (Bx.ex (by first | exact Ex.refl _ | assumption) hx5A) (Nat.zero_lt_succ _) rfl hn2 ?_; intro wz hx5z hgz; have hx5o := hx5A; clear tkQ; (have hx4A := Bx.grown (Bx.ex (by first | exact Ex.refl _ | assumption) hx4A) hgz (by simp; omega)); (have hx5A : Bx wz b5 [dlv] 30 := hx5z); (have htw := TwoV.grownS hgz (by omega) (TwoV.ex (by first | exact Ex.refl _ | assumption) htw)); (have heA : Ex w wz := Ex.of_grown (heA.trans (by first | exact Ex.refl _ | assumption)) hgz (by intro k hk; cases hk; omega)); (have halA := Al.grownS hgz (Bx.ex (by first | exact Ex.refl _ | assumption) hx5o) (Al.ex (by first | exact Ex.refl _ | assumption) halA)))
        | (refine XT_two (t := 0) (t' := 1) (s := true) (s' := true) (listed := #[false, false, false, false]) (l1 := #[true, false, false, false]) (l1' := #[false, true, false, false]) (by kernel_rfl) rfl rfl (by kernel_rfl) (by kernel_rfl) (by kernel_rfl) (by kernel_rfl) ?_ ?_)
        | (refine XT_two (t := 1) (t' := 2) (s := true) (s' := true) (listed := #[true, false, false, false]) (l1 := #[true, true, false, false]) (l1' := #[true, false, true, false]) (by kernel_rfl) rfl rfl (by kernel_rfl) (by kernel_rfl) (by kernel_rfl) (by kernel_rfl) ?_ ?_)
        | (refine XT_one (t := 0) (s := true) (listed := #[false, true, false, false]) (listed' := #[true, true, false, false]) (by kernel_rfl) rfl (by kernel_rfl) (by kernel_rfl) ?_)
        | (refine XT_one (t := 2) (s := true) (listed := #[true, true, false, false]) (listed' := #[true, true, true, false]) (by kernel_rfl) rfl (by kernel_rfl) (by kernel_rfl) ?_)
        | (refine XT_one (t := 1) (s := true) (listed := #[true, false, true, false]) (listed' := #[true, true, true, false]) (by kernel_rfl) rfl (by kernel_rfl) (by kernel_rfl) ?_)
        | (refine XT_one (t := 3) (s := true) (listed := #[true, true, true, false]) (listed' := #[true, true, true, true]) (by kernel_rfl) rfl (by kernel_rfl) (by kernel_rfl) ?_)
        | (with_reducible apply XB_nil)
        | ((with_reducible apply XM_nil); intro wq he; have hsz := he.size)
        | ((with_reducible apply XT_nil); kernel_rfl)
        | (with_reducible apply x_sink)
        | (with_reducible apply W_nil)
        | (with_reducible apply c_seq)
        | (with_reducible apply c_ret)
        | (with_reducible apply n_then)
        | (with_reducible apply n_block))
    all_goals exact m_retcc halA rfl inferInstance rfl inferInstance rfl rfl rfl hx4A hx5A ⟨_, rfl, ⟨dmv, dlv, rfl, Ints.kc (KC.shut halA) (cum_ints htw.1), Ints.kc (KC.shut halA) (cum_ints htw.2.1)⟩, shut_grown _ _ halA heA (Nat.le_refl _)⟩
  case stop =>
    rintro D c pre A hD _ hf
    exact hf.elim
end Go.Proofs.Ytlphfobpheefkaa
