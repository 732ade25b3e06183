/-
  What this text proves: the law on days returns true. Conditions: the arguments are bytes.
-/
import Derived.Test.YtjcigpakljfkeaaVYk
import Derived.Test.YtjcigpakljfkeaaVYo
import Derived.Test.YtjcigpakljfkeaaVYp
set_option linter.unusedVariables false
set_option linter.unusedSimpArgs false
namespace Go.Pv
open Go.RowKit
theorem days_few2 {gl gh lo na sh a2 B1 B2 A to : Int} (h0 : barsErr gl gh lo na sh = 0) (hA : barsA gl gh lo na sh = (1, a2)) (hB : barsB gl gh lo na sh = (B1, B2)) (ha : 1 ≤ a2) (hb : (B1 = 0 ∧ B2 = 0) ∨ (1 ≤ B1 ∧ B1 ≤ B2)) (hs : slotOk (A, to)) (hn2 : to - A ≤ 1000) :
    (∃ L, bridgeErr gl gh lo na sh (A, to) = 0 ∧ bridgeL gl gh lo na sh (A, to) = L ∧ GoodL a2 B1 B2 A to L ∧ holdsErr gl gh lo na sh (A, to) L = 0 ∧ (0 < L.length ∧ L.length ≤ 200) ∧ (L.length = 1 ∨ 1 ≤ B1)) ∨
    (bridgeErr gl gh lo na sh (A, to) = 20 ∧ bridgeL gl gh lo na sh (A, to) = []) := by
  have e0 : ¬ (barsErr gl gh lo na sh ≠ 0) := by simp [h0]
  have e1 : ¬ (¬ slotOk (A, to) ∨ 10000 < (A, to).2 - (A, to).1) := by simp only; simp [hs]; omega
  unfold bridgeErr bridgeL
  rw [if_neg e0, if_neg e0, if_neg e1, if_neg e1, hA, hB]
  simp only
  cases hf : fewK (1, a2) (B1, B2) (to - A) 200 0 with
  | some k =>
    obtain ⟨h1, h2, h3, h4⟩ := few_some _ _ _ hf
    have hk : k = 0 ∨ 1 ≤ B1 := by
      rcases hb with ⟨r1, r2⟩ | hb
      · exact .inl (h4 (by rw [r1, r2]))
      · exact .inr hb.1
    obtain ⟨g1, g2⟩ := lay_good (to := to) ha (show B1 ≤ B2 by omega) (show 0 ≤ B1 by omega) k A h1
    refine .inl ⟨layP to (altL (1, a2) (B1, B2) k) true A, rfl, rfl, g1, holds_ok h0 hA hB hs g1 (by omega) (by rcases hk with h | h; (· left; omega); exact .inr h), ⟨by omega, by omega⟩, (by rcases hk with h | h; (· left; omega); exact .inr h)⟩
  | none => exact .inr ⟨rfl, rfl⟩
theorem day_ok {g gl gh lo na sh fr to a2 B1 B2 A BL BH : Int} {L : List (Int × Int)} (h : GoodL a2 B1 B2 fr to L) (h1 : L.length = 1 ∨ 1 ≤ B1) (hto : to ≤ 400) (hfr : 0 ≤ fr) (hA : a2 = A) (hbc : (B1 = BL ∧ B2 = BH ∧ BL ≤ BH) ∨ (B1 = 0 ∧ B2 = 0 ∧ BH < BL))
    (hask : ∀ n : Int, 1 ≤ n → n ≤ 1000 → (n * gl ≤ n * g ∧ n * g ≤ n * gh) ∧ (n ≤ A ↔ n * gh ≤ 1000 * lo) ∧ (n ≤ BH ↔ n * gh < 1000 * sh) ∧ (BL ≤ n ↔ 1000 * na ≤ n * gl)) : DayOk g lo na sh L := by
  intro q hq
  have hg := good_at h hq
  have hq2 := hask ((L.getD q (0, 0)).2 - (L.getD q (0, 0)).1) (by omega) (by omega)
  refine ⟨by omega, by omega, fun hp => ?_⟩
  have hg2 := hg.2.2 hp
  have hq3 := hask ((L.getD q (0, 0)).1 - (L.getD (q - 1) (0, 0)).2) (by omega) (by omega)
  exact ⟨by omega, by omega, by omega, by omega⟩
theorem sv_next {k : Nat} {A : Int} {x sv sv' : Bool} (h : sv' = (sv || x)) (hsv : (sv = true ∧ (2 ≤ k ∧ 1 ≤ A)) ∨ (sv = false ∧ (k ≤ 1 ∨ A < 1))) (hxx : (x = true ∧ (1 ≤ (k : Int) ∧ (k : Int) ≤ A)) ∨ (x = false ∧ ¬ (1 ≤ (k : Int) ∧ (k : Int) ≤ A))) : (sv' = true ∧ (2 ≤ k + 1 ∧ 1 ≤ A)) ∨ (sv' = false ∧ (k + 1 ≤ 1 ∨ A < 1)) := by
  rcases hsv with ⟨e1, h1⟩ | ⟨e1, h1⟩ <;> rcases hxx with ⟨e2, h2⟩ | ⟨e2, h2⟩ <;> subst e1 <;> subst e2
  · exact .inl ⟨h, by omega, by omega⟩
  · exact .inl ⟨h, by omega, by omega⟩
  · exact .inl ⟨h, by omega, by omega⟩
  · exact .inr ⟨h, by omega⟩
end Go.Pv
namespace Go.Proofs.Ytjcigpakljfkeaa
open Go.Pv Go.RowKit
set_option maxHeartbeats 8000000
set_option maxRecDepth 20000
theorem lawDays0 (g0 g1 lo0 na0 sh0 fr ln dy : Int) (w : World) (h0 : 0 ≤ g0 ∧ g0 ≤ 255) (h1 : 0 ≤ g1 ∧ g1 ≤ 255) (h2 : 0 ≤ lo0 ∧ lo0 ≤ 255) (h3 : 0 ≤ na0 ∧ na0 ≤ 255) (h4 : 0 ≤ sh0 ∧ sh0 ≤ 255) (h5 : 0 ≤ fr ∧ fr ≤ 255) (h6 : 0 ≤ ln ∧ ln ≤ 255) (h7 : 0 ≤ dy ∧ dy ≤ 65535) (hc : ¬ aHi (900 + g0 % 150 + g1 % 50) (1 + lo0 % 12) < 1) : Ret Try.prog 12 [.agg #[.int .u8 g0, .int .u8 g1, .int .u8 lo0, .int .u8 na0, .int .u8 sh0], .int .u8 fr, .int .u8 ln, .int .u16 dy] w fun x _ => x = .bool true := by
  have hmade := fun w2 => sheetMade_any g0 g1 lo0 na0 sh0 w2 h0 h1 h2 h3 h4
  obtain ⟨gl, hgl⟩ : ∃ gl, 900 + g0 % 150 = gl := ⟨_, rfl⟩
  obtain ⟨gh, hgh⟩ : ∃ gh, gl + g1 % 50 = gh := ⟨_, rfl⟩
  obtain ⟨lo, hlo⟩ : ∃ lo, 1 + lo0 % 12 = lo := ⟨_, rfl⟩
  obtain ⟨na, hna⟩ : ∃ na, 1 + na0 % 6 = na := ⟨_, rfl⟩
  obtain ⟨sh, hsh⟩ : ∃ sh, 1 + sh0 % 14 = sh := ⟨_, rfl⟩
  simp only [hgl, hgh, hlo, hna, hsh] at hmade
  rw [hgl, hgh, hlo] at hc
  have hgb : 900 ≤ gl ∧ gl ≤ gh ∧ gh ≤ 1100 := by omega
  have hlb : 1 ≤ lo ∧ lo ≤ 12 := by omega
  have hnb : 1 ≤ na ∧ na ≤ 6 := by omega
  have hsb : 1 ≤ sh ∧ sh ≤ 14 := by omega
  obtain ⟨hbe, hbs⟩ := sheet_bars hgb hlb hnb hsb
  have hbars := fun w2 => bars_any gl gh lo na sh w2
  have hg1 := Int.emod_nonneg dy (show gh - gl + 1 ≠ 0 by omega)
  have hg2 := Int.emod_lt_of_pos dy (show 0 < gh - gl + 1 by omega)
  clear hgl hgh hlo hna hsh
  -- what the two questions come to at a length
  have hask : ∀ n : Int, 1 ≤ n → n ≤ 1000 → (n * gl ≤ n * (gl + dy % (gh - gl + 1)) ∧ n * (gl + dy % (gh - gl + 1)) ≤ n * gh) ∧ (n ≤ aHi gh lo ↔ n * gh ≤ 1000 * lo) ∧ (n ≤ bHi gh sh ↔ n * gh < 1000 * sh) ∧ (bLo gl na ≤ n ↔ 1000 * na ≤ n * gl) := fun n hn hn2 =>
    ⟨⟨Int.mul_le_mul_of_nonneg_left (by omega) (by omega), Int.mul_le_mul_of_nonneg_left (by omega) (by omega)⟩, aHi_iff (by omega), bHi_iff (by omega), bLo_iff (by omega)⟩
  have hA0 : barsErr gl gh lo na sh = if aHi gh lo < 1 then 20 else 0 := by
    unfold barsErr
    rw [if_neg (by simp only [Decidable.not_not]; unfold paperOk; omega)]
  obtain ⟨A, hA⟩ : ∃ A, aHi gh lo = A := ⟨_, rfl⟩
  obtain ⟨BL, hBL⟩ : ∃ BL, bLo gl na = BL := ⟨_, rfl⟩
  obtain ⟨BH, hBH⟩ : ∃ BH, bHi gh sh = BH := ⟨_, rfl⟩
  obtain ⟨g, hg⟩ : ∃ g, gl + dy % (gh - gl + 1) = g := ⟨_, rfl⟩
  rw [hA] at hc
  simp only [hA, hBL, hBH, hg] at hask hA0
  have hgr : gl ≤ g ∧ g ≤ gh := by omega
  have hBL1 : 1 ≤ BL := by rw [← hBL]; exact (bLo_bd (gl := gl) (gh := gh) (lo := lo) (na := na) (sh := sh) (by unfold paperOk; omega)).1
  obtain ⟨e, a1, a2, b1, b2, hbars2, hcase⟩ : ∃ e a1 a2 b1 b2, (∀ w2, Ret Try.prog 30 [.agg #[.int .i64 gl, .int .i64 gh, .int .i64 lo, .int .i64 na, .int .i64 sh]] w2 fun r _ => r = .tuple #[.agg #[.int .i64 a1, .int .i64 a2], .agg #[.int .i64 b1, .int .i64 b2], .int .i64 e]) ∧ ((e = 20 ∧ A < 1) ∨ (e = 0 ∧ 1 ≤ A ∧ a1 = 1 ∧ a2 = A ∧ ((b1 = BL ∧ b2 = BH ∧ BL ≤ BH) ∨ (b1 = 0 ∧ b2 = 0 ∧ BH < BL)) ∧ barsErr gl gh lo na sh = 0 ∧ barsA gl gh lo na sh = (1, a2) ∧ barsB gl gh lo na sh = (b1, b2) ∧ (1 ≤ a2 ∧ a2 ≤ 20) ∧ b2 ≤ 20 ∧ ((b1 = 0 ∧ b2 = 0) ∨ (1 ≤ b1 ∧ b1 ≤ b2)))) := by
    refine ⟨_, _, _, _, _, fun w2 => hbars w2, ?_⟩
    by_cases hc : A < 1
    · rw [hA0, if_pos hc]; exact .inl ⟨rfl, hc⟩
    · rw [if_neg hc] at hA0
      obtain ⟨x2, y1, y2, e1, e2, e3, e4, e5⟩ := hbs hA0
      have f1 : barsA gl gh lo na sh = (1, A) := by unfold barsA; rw [if_neg (by simp [hA0]), hA]
      have f2 : barsB gl gh lo na sh = if BH < BL then (0, 0) else (BL, BH) := by unfold barsB; rw [if_neg (by simp [hA0]), hBH, hBL]
      rw [e1] at f1
      rw [e2] at f2
      have f3 : x2 = A := by injection f1
      rw [hA0, e1, e2]
      refine .inr ⟨rfl, by omega, rfl, f3, ?_, rfl, rfl, rfl, e3, e4, e5⟩
      by_cases hc2 : BH < BL
      · rw [if_pos hc2] at f2; injection f2 with k1 k2; exact .inr ⟨k1, k2, hc2⟩
      · rw [if_neg hc2] at f2; injection f2 with k1 k2; exact .inl ⟨k1, k2, by omega⟩
  have hslot : slotOk (fr, fr + 1 + ln % 60) := by unfold slotOk; simp only; omega
  have hbri := fun w2 => bridge_any gl gh lo na sh fr (fr + 1 + ln % 60) w2
  have hhol := fun (v : Value) (L : List (Int × Int)) (w2 : World) (hv : Prs w2 v L) => holds_any gl gh lo na sh fr (fr + 1 + ln % 60) v L w2 hv
  clear hbars hbs hbe hA hBL hBH hA0
  subst hg
  rcases hcase with ⟨rfl, hA1⟩ | ⟨rfl, hA1, ha1e, ha2e, hbc, hbE, hbA, hbB, ha20, hb20, hbb⟩
  · exfalso; omega
  · obtain ⟨L, eB, hbri2, hLc⟩ : ∃ L eB, (∀ w2, Ret Try.prog 32 [.agg #[.int .i64 gl, .int .i64 gh, .int .i64 lo, .int .i64 na, .int .i64 sh], .agg #[.int .i64 fr, .int .i64 (fr + 1 + ln % 60)]] w2 fun r w' => ∃ u, r = .tuple #[u, .int .i64 eB] ∧ OwnP 47 w2.heap.size w' u L) ∧ ((eB = 0 ∧ GoodL a2 b1 b2 fr (fr + 1 + ln % 60) L ∧ holdsErr gl gh lo na sh (fr, fr + 1 + ln % 60) L = 0 ∧ (0 < L.length ∧ L.length ≤ 200) ∧ (L.length = 1 ∨ 1 ≤ b1)) ∨ (eB = 20 ∧ L = [])) := by
      refine ⟨_, _, hbri, ?_⟩
      rcases days_few2 hbE hbA hbB ha20.1 hbb hslot (by omega) with ⟨L, c1, c2, c3, c4, c5, c6⟩ | ⟨c1, c2⟩
      · rw [c1, c2]; exact .inl ⟨rfl, c3, c4, c5, c6⟩
      · rw [c1, c2]; exact .inr ⟨rfl, rfl⟩
    have tkL : True := trivial
    clear hbri hslot
    refine ret_of_c Try.func12 rfl Try.ntmps12 (Nat.le_of_ble_eq_true rfl) (by dsimp only [ini, Nat.reduceAdd] <;> exact rfl) ?_
    repeat' (first
        | (have hk39 : k < 40 := (by omega); clear tkA; (rcases Nat.eq_zero_or_pos k with hk0 | hk0; rotate_left 1; have hk1 := hask k (by omega) (by omega); rotate_left 1))
        | (clear tkX; refine c_agree (y := .seq (.region 11 _ _) _) (n := 251) (ds := []) (fun u2 => dRound_any (by kernel_rfl) fr ln _ gl gh lo na sh a1 a2 b1 b2 A BL BH k b9 b11 b12 x y sv u2 _ (by omega) (by omega) hlb hnb hsb ha1e ha2e hbc hBL1 (fun h => hask k h (by omega)) hxx hyy hx9 hx11 hx12 (fun u' w' sv' hsv' he' => ?_)) ⟨rfl, rfl, rfl, rfl, rfl, rfl, rfl, rfl, rfl, rfl, rfl, rfl, rfl, trivial⟩ rfl; have hx9 := hx9.ex he'; have hx11 := hx11.ex he'; have hx12 := hx12.ex he'; have he := he.trans he'; clear he')
        | (have hk40 : k = 40 := (by omega); clear tkA; obtain rfl : sv = true := (by rcases hsv with ⟨h, _⟩ | ⟨_, h⟩; (· exact h); exfalso; omega); (rcases hLc with ⟨rfl, hgd, hho, ⟨hLp, hL2⟩, hL1⟩ | ⟨rfl, rfl⟩))
        | ((with_reducible (show C _ _ _ _ _ _)); refine c_cutG (x := .region 10 _ _) (n := 251) (ds := []) (fun ps wr2 => ∃ (x y : Bool), ps = [(1, Value.int .u8 fr), (2, .int .u8 ln), (9, .pointer (some ⟨b9, 0, none⟩)), (10, .int .i64 (gl + dy % (gh - gl + 1))), (11, .pointer (some ⟨b11, 0, none⟩)), (12, .pointer (some ⟨b12, 0, none⟩)), (13, .int .i64 0), (14, .func (.func 43) #[] #[.pointer (some ⟨b9, 0, none⟩)]), (15, .func (.func 44) #[] #[.pointer (some ⟨b9, 0, none⟩)]), (16, .bool sv), (17, .int .i64 (k : Int)), (18, .bool x), (19, .bool y)] ∧ ((x = true ∧ (1 ≤ (k : Int) ∧ (k : Int) ≤ A)) ∨ (x = false ∧ ¬ (1 ≤ (k : Int) ∧ (k : Int) ≤ A))) ∧ ((y = true ∧ (1 ≤ (k : Int) ∧ BL ≤ k ∧ (k : Int) ≤ BH)) ∨ (y = false ∧ ¬ (1 ≤ (k : Int) ∧ BL ≤ k ∧ (k : Int) ≤ BH))) ∧ Bx wr2 b9 [.int .i64 gl, .int .i64 gh, .int .i64 lo, .int .i64 na, .int .i64 sh] 57 ∧ Bx wr2 b11 [.int .i64 a1, .int .i64 a2] 55 ∧ Bx wr2 b12 [.int .i64 b1, .int .i64 b2] 55 ∧ Ex w wr2) (fun J7 hJ7 => ?_) (fun u2 ps2 wr2 hI2 => ?_); rotate_left 1; obtain ⟨x, y, rfl, hxx, hyy, hx9, hx11, hx12, he⟩ := hI2; have hsz := he.size; have tkX : True := trivial; rotate_left 1)
        | ((with_reducible (show Exit.then _ _ _ _ _)); refine n_cutG (hJ7 _ _ _ ⟨_, _, rfl, (by first | exact .inr ⟨rfl, by omega⟩ | exact .inl ⟨rfl, by omega⟩ | (by_cases hX : 1 ≤ (k : Int) ∧ (k : Int) ≤ A; (· exact .inl ⟨decide_eq_true (by omega), hX⟩); exact .inr ⟨decide_eq_false (by omega), hX⟩)), (by first | exact .inr ⟨rfl, by omega⟩ | exact .inl ⟨rfl, by omega⟩ | (by_cases hX : 1 ≤ (k : Int) ∧ BL ≤ k ∧ (k : Int) ≤ BH; (· exact .inl ⟨decide_eq_true (by omega), hX⟩); exact .inr ⟨decide_eq_false (by omega), hX⟩)), (by repeat (first | assumption | ((with_reducible apply Bx.grownS); assumption; (first | omega | exact Bx.ne (by assumption) (by omega))) | ((with_reducible apply Bx.below); assumption; omega) | ((with_reducible apply Own.grownS); assumption; omega) | ((with_reducible apply Bx.ex); assumption) | ((with_reducible apply IntsK.ex); assumption) | ((with_reducible apply Own.ex); assumption) | ((with_reducible apply Prs.ex); assumption))), (by repeat (first | assumption | ((with_reducible apply Bx.grownS); assumption; (first | omega | exact Bx.ne (by assumption) (by omega))) | ((with_reducible apply Bx.below); assumption; omega) | ((with_reducible apply Own.grownS); assumption; omega) | ((with_reducible apply Bx.ex); assumption) | ((with_reducible apply IntsK.ex); assumption) | ((with_reducible apply Own.ex); assumption) | ((with_reducible apply Prs.ex); assumption))), (by repeat (first | assumption | ((with_reducible apply Bx.grownS); assumption; (first | omega | exact Bx.ne (by assumption) (by omega))) | ((with_reducible apply Bx.below); assumption; omega) | ((with_reducible apply Own.grownS); assumption; omega) | ((with_reducible apply Bx.ex); assumption) | ((with_reducible apply IntsK.ex); assumption) | ((with_reducible apply Own.ex); assumption) | ((with_reducible apply Prs.ex); assumption))), (by repeat (first | assumption | exact Ex.refl _ | (refine Ex.trans ?_ (by assumption)) | (refine Ex.of_grown ?_ (by assumption) (by intro k hk; cases hk; omega))))⟩ ⟨rfl, rfl, rfl, rfl, rfl, rfl, rfl, rfl, rfl, rfl, rfl, rfl, rfl, trivial⟩ rfl))
        | ((with_reducible apply W_op); exact rfl; exact rfl; exact r_conv8 rfl (by omega))
        | ((with_reducible apply W_op); exact rfl; exact rfl; exact r_remE rfl rfl (by omega) (by omega))
        | ((with_reducible apply WQ_op); exact rfl; exact rfl; intro wq he; exact r_conv16 rfl (by omega))
        | ((with_reducible apply WQ_op); exact rfl; exact rfl; intro wq he; exact r_remE rfl rfl (by omega) (by omega))
        | ((with_reducible apply W_split); exact rfl; exact rfl; intro _; rotate_left 1; intro _; (all_goals (try (exfalso; (focus (omega; done))))))
        | ((with_reducible apply WQ_split); exact rfl; exact rfl; intro _; rotate_left 1; intro _; (all_goals (try (exfalso; (focus (omega; done))))))
        | (refine c_agree (y := .seq (.seq (.region 16 _ _) _) _) (n := 251) (ds := []) (fun u2 => dTail1_any (by kernel_rfl) fr ln _ gl gh lo na sh L b9 u2 w _ h5 h6 (by omega) hlb hnb hsb hbri2 (fun v w2 hv => hho ▸ hhol v L w2 hv) hLp hL2 hgd.1.2.1 hgd.1.2.2 (day_ok hgd hL1 (by omega) h5.1 ha2e hbc hask) (by repeat (first | assumption | ((with_reducible apply Bx.grownS); assumption; (first | omega | exact Bx.ne (by assumption) (by omega))) | ((with_reducible apply Bx.below); assumption; omega) | ((with_reducible apply Bx.ex); assumption))) (by repeat (first | assumption | exact Ex.refl _ | (refine Ex.trans ?_ (by assumption)) | (refine Ex.of_grown ?_ (by assumption) (by intro k hk; cases hk; omega))))) ⟨rfl, rfl, rfl, rfl, rfl, rfl, rfl, rfl, trivial⟩ rfl)
        | (refine c_agree (y := .seq (.seq (.region 16 _ _) _) _) (n := 251) (ds := []) (fun u2 => dTail0_any (by kernel_rfl) fr ln _ gl gh lo na sh b9 u2 w _ h5 h6 (by omega) hlb hnb hsb hbri2 (by repeat (first | assumption | ((with_reducible apply Bx.grownS); assumption; (first | omega | exact Bx.ne (by assumption) (by omega))) | ((with_reducible apply Bx.below); assumption; omega) | ((with_reducible apply Bx.ex); assumption))) (by repeat (first | assumption | exact Ex.refl _ | (refine Ex.trans ?_ (by assumption)) | (refine Ex.of_grown ?_ (by assumption) (by intro k hk; cases hk; omega))))) ⟨rfl, rfl, rfl, rfl, rfl, rfl, rfl, rfl, trivial⟩ rfl)
        | ((first | ((with_reducible apply W_op); exact rfl; exact rfl) | ((with_reducible apply WQ_op); exact rfl; exact rfl; intro wq he) | ((with_reducible apply WM_op); exact rfl; exact rfl; intro wq he) | ((with_reducible apply WB_op); exact rfl; exact rfl; intro wq)); (first | ((with_reducible apply r_conv8); exact rfl; omega) | ((with_reducible apply r_conv16); exact rfl; omega) | ((with_reducible apply r_remE); exact rfl; exact rfl; omega; omega) | ((with_reducible apply r_indexArr); exact rfl; exact rfl; omega) | ((with_reducible apply r_move); ((conv => lhs; whnf) <;> exact rfl)) | ((with_reducible apply r_assign); ((conv => lhs; whnf) <;> exact rfl)) | ((with_reducible apply r_fieldAddr); exact rfl) | ((with_reducible apply r_load); exact rfl; exact rfl; (first | assumption | exact (Bx.cell (by repeat (first | assumption | ((with_reducible apply Bx.grownS); assumption; (first | omega | exact Bx.ne (by assumption) (by omega))) | ((with_reducible apply Bx.below); assumption; omega) | ((with_reducible apply Bx.ex); assumption))) _).trans rfl | exact Ex.cell (by assumption) (by assumption))) | ((with_reducible apply r_loadF); exact rfl; (first | assumption | exact (Bx.cell (by repeat (first | assumption | ((with_reducible apply Bx.grownS); assumption; (first | omega | exact Bx.ne (by assumption) (by omega))) | ((with_reducible apply Bx.below); assumption; omega) | ((with_reducible apply Bx.ex); assumption))) _).trans rfl | exact Ex.cell (by assumption) (by assumption))) | ((with_reducible apply r_loadA); exact rfl; (first | assumption | exact Bx.cells (by repeat (first | assumption | ((with_reducible apply Bx.grownS); assumption; (first | omega | exact Bx.ne (by assumption) (by omega))) | ((with_reducible apply Bx.below); assumption; omega) | ((with_reducible apply Bx.ex); assumption))) | exact Cells.ex (by assumption) (by assumption)); exact rfl) | ((with_reducible apply r_lss); exact rfl; exact rfl) | ((with_reducible apply r_leq); exact rfl; exact rfl) | ((with_reducible apply r_gtr); exact rfl; exact rfl) | ((with_reducible apply r_geq); exact rfl; exact rfl) | ((with_reducible apply r_eql); exact rfl; exact rfl) | ((with_reducible apply r_neq); exact rfl; exact rfl) | ((with_reducible apply r_add); exact rfl; exact rfl; omega) | ((with_reducible apply r_sub); exact rfl; exact rfl; omega) | ((with_reducible apply r_len); exact rfl) | ((with_reducible apply r_lenStr); exact rfl) | ((with_reducible apply r_lenInts); ((conv => lhs; whnf) <;> exact rfl); (focus ((repeat (first | assumption | ((with_reducible apply Bx.grownS); assumption; (first | omega | exact Bx.ne (by assumption) (by omega))) | ((with_reducible apply Bx.below); assumption; omega) | ((with_reducible apply Own.grownS); assumption; omega) | ((with_reducible apply Bx.ex); assumption) | ((with_reducible apply IntsK.ex); assumption) | ((with_reducible apply Own.ex); assumption) | ((with_reducible apply Prs.ex); assumption))); done))) | ((with_reducible apply r_lenPrs); ((conv => lhs; whnf) <;> exact rfl); (focus ((repeat (first | assumption | ((with_reducible apply Bx.grownS); assumption; (first | omega | exact Bx.ne (by assumption) (by omega))) | ((with_reducible apply Bx.below); assumption; omega) | ((with_reducible apply Own.grownS); assumption; omega) | ((with_reducible apply Bx.ex); assumption) | ((with_reducible apply IntsK.ex); assumption) | ((with_reducible apply Own.ex); assumption) | ((with_reducible apply Prs.ex); assumption))); done))) | ((with_reducible apply r_pick_true); exact rfl; ((conv => lhs; whnf) <;> exact rfl)) | ((with_reducible apply r_pick_false); exact rfl; ((conv => lhs; whnf) <;> exact rfl)) | ((with_reducible apply r_not); exact rfl) | ((with_reducible apply r_notb); exact rfl) | ((with_reducible apply r_rem); exact rfl; exact rfl; omega) | ((with_reducible apply r_eqlb); exact rfl; exact rfl) | ((with_reducible apply r_neqb); exact rfl; exact rfl) | ((with_reducible apply r_extract); exact rfl; exact rfl) | ((with_reducible apply r_mf1); ((conv => lhs; whnf) <;> exact rfl)) | ((with_reducible apply r_mfc); ((conv => lhs; whnf) <;> exact rfl)) | ((with_reducible apply r_makeFunc); exact rfl; exact rfl) | ((with_reducible apply r_conv); exact rfl) | ((with_reducible apply r_build2); ((conv => lhs; whnf) <;> exact rfl); ((conv => lhs; whnf) <;> exact rfl); (first | exact rfl | assumption | exact IntsK.one (by assumption) | exact Prs.one (by assumption) | exact Own.one (by assumption)); (first | exact rfl | assumption | exact IntsK.one (by assumption) | exact Prs.one (by assumption) | exact Own.one (by assumption)); exact rfl; exact rfl; ((simp only [lay, lset, List.replicate_succ, List.replicate_zero]) <;> exact rfl)) | ((with_reducible apply r_loadSub); exact rfl; (focus ((repeat (first | assumption | ((with_reducible apply Bx.grownS); assumption; (first | omega | exact Bx.ne (by assumption) (by omega))) | ((with_reducible apply Bx.below); assumption; omega) | ((with_reducible apply Bx.ex); assumption))); done)); ((simp only [Nat.add_zero, Nat.zero_add, Nat.reduceAdd, List.drop_zero, List.drop_succ_cons, List.take_succ_cons, List.take_zero]) <;> exact rfl); exact rfl) | ((with_reducible apply r_bldA); kernel_rfl; ((conv => lhs; whnf) <;> exact rfl); ((conv => lhs; whnf) <;> exact rfl); (first | exact rfl | assumption | exact IntsK.one (by assumption) | exact Prs.one (by assumption) | exact Own.one (by assumption)))))
        | (refine W_callv (hmade _) rfl (fun wq he => ?_); have hsz := he.size)
        | (refine W_callv (hbars2 _) rfl (fun wq he => ?_); have hsz := he.size)
        | (refine W_callv (works_any _) rfl (fun wq he => ?_); have hsz := he.size)
        | (refine WQ_callfv (first := []) (captured := [.pointer (some ⟨b9, 0, none⟩)]) (vs := [.int .i64 (k : Int), .int .i64 gl]) rfl (fun wq he => dHole_any (k : Int) gl gl gh lo na sh b9 wq (by repeat (first | assumption | ((with_reducible apply Bx.grownS); assumption; (first | omega | exact Bx.ne (by assumption) (by omega))) | ((with_reducible apply Bx.below); assumption; omega) | ((with_reducible apply Bx.ex); assumption))) (by omega) (by omega) hlb) rfl ?_)
        | (refine WQ_callfv (first := []) (captured := [.pointer (some ⟨b9, 0, none⟩)]) (vs := [.int .i64 (k : Int), .int .i64 gl]) rfl (fun wq he => dBridge_any (k : Int) gl gl gh lo na sh b9 wq (by repeat (first | assumption | ((with_reducible apply Bx.grownS); assumption; (first | omega | exact Bx.ne (by assumption) (by omega))) | ((with_reducible apply Bx.below); assumption; omega) | ((with_reducible apply Bx.ex); assumption))) (by omega) (by omega) hnb hsb) rfl ?_)
        | (refine WQ_callfv (first := []) (captured := [.pointer (some ⟨b9, 0, none⟩)]) (vs := [.int .i64 (k : Int), .int .i64 gh]) rfl (fun wq he => dHole_any (k : Int) gh gl gh lo na sh b9 wq (by repeat (first | assumption | ((with_reducible apply Bx.grownS); assumption; (first | omega | exact Bx.ne (by assumption) (by omega))) | ((with_reducible apply Bx.below); assumption; omega) | ((with_reducible apply Bx.ex); assumption))) (by omega) (by omega) hlb) rfl ?_)
        | (refine WQ_callfv (first := []) (captured := [.pointer (some ⟨b9, 0, none⟩)]) (vs := [.int .i64 (k : Int), .int .i64 gh]) rfl (fun wq he => dBridge_any (k : Int) gh gl gh lo na sh b9 wq (by repeat (first | assumption | ((with_reducible apply Bx.grownS); assumption; (first | omega | exact Bx.ne (by assumption) (by omega))) | ((with_reducible apply Bx.below); assumption; omega) | ((with_reducible apply Bx.ex); assumption))) (by omega) (by omega) hnb hsb) rfl ?_)
        | ((with_reducible (show C _ _ _ _ _ _)); clear tkL; refine c_loopG (fun (k : Nat) ps wr => ∃ b9 b11 b12 : Nat, ∃ sv : Bool, ∃ i : Int, ps = [(1, .int .u8 fr), (2, .int .u8 ln), (9, .pointer (some ⟨b9, 0, none⟩)), (10, .int .i64 (gl + dy % (gh - gl + 1))), (11, .pointer (some ⟨b11, 0, none⟩)), (12, .pointer (some ⟨b12, 0, none⟩)), (13, .int .i64 0), (14, .func (.func 43) #[] #[.pointer (some ⟨b9, 0, none⟩)]), (15, .func (.func 44) #[] #[.pointer (some ⟨b9, 0, none⟩)]), (16, .bool sv), (17, .int .i64 i)] ∧ i = k ∧ k ≤ 40 ∧ ((sv = true ∧ (2 ≤ k ∧ 1 ≤ A)) ∨ (sv = false ∧ (k ≤ 1 ∨ A < 1))) ∧ Bx wr b9 [.int .i64 gl, .int .i64 gh, .int .i64 lo, .int .i64 na, .int .i64 sh] 57 ∧ Bx wr b11 [.int .i64 a1, .int .i64 a2] 55 ∧ Bx wr b12 [.int .i64 b1, .int .i64 b2] 55 ∧ Ex w wr) (fun k => 40 - k) 0 _ ⟨_, _, _, _, _, rfl, rfl, Nat.zero_le _, .inr ⟨rfl, by omega⟩, (by repeat (first | assumption | ((with_reducible apply Bx.grownS); assumption; (first | omega | exact Bx.ne (by assumption) (by omega))) | ((with_reducible apply Bx.below); assumption; omega) | ((with_reducible apply Own.grownS); assumption; omega) | ((with_reducible apply Bx.ex); assumption) | ((with_reducible apply IntsK.ex); assumption) | ((with_reducible apply Own.ex); assumption) | ((with_reducible apply Prs.ex); assumption))), (by repeat (first | assumption | ((with_reducible apply Bx.grownS); assumption; (first | omega | exact Bx.ne (by assumption) (by omega))) | ((with_reducible apply Bx.below); assumption; omega) | ((with_reducible apply Own.grownS); assumption; omega) | ((with_reducible apply Bx.ex); assumption) | ((with_reducible apply IntsK.ex); assumption) | ((with_reducible apply Own.ex); assumption) | ((with_reducible apply Prs.ex); assumption))), (by repeat (first | assumption | ((with_reducible apply Bx.grownS); assumption; (first | omega | exact Bx.ne (by assumption) (by omega))) | ((with_reducible apply Bx.below); assumption; omega) | ((with_reducible apply Own.grownS); assumption; omega) | ((with_reducible apply Bx.ex); assumption) | ((with_reducible apply IntsK.ex); assumption) | ((with_reducible apply Own.ex); assumption) | ((with_reducible apply Prs.ex); assumption))), (by repeat (first | assumption | exact Ex.refl _ | (refine Ex.trans ?_ (by assumption)) | (refine Ex.of_grown ?_ (by assumption) (by intro k hk; cases hk; omega))))⟩ ⟨rfl, rfl, rfl, rfl, rfl, rfl, rfl, rfl, rfl, rfl, rfl, trivial⟩ (by ((conv => lhs; whnf) <;> exact rfl)) (by ((conv => lhs; whnf) <;> exact rfl)) ?_; rintro J hJ k u ps wr ⟨b9, b11, b12, sv, i, rfl, rfl, hk, hsv, hx9, hx11, hx12, he⟩; have hsz := he.size; have tkA : True := trivial)
        | ((with_reducible (show Exit.then _ _ _ _ _)); refine n_roundG (k + 1) (hJ _ _ _ _ ⟨_, _, _, _, _, rfl, by omega, by omega, (sv_next hsv' hsv hxx), (by repeat (first | assumption | ((with_reducible apply Bx.grownS); assumption; (first | omega | exact Bx.ne (by assumption) (by omega))) | ((with_reducible apply Bx.below); assumption; omega) | ((with_reducible apply Own.grownS); assumption; omega) | ((with_reducible apply Bx.ex); assumption) | ((with_reducible apply IntsK.ex); assumption) | ((with_reducible apply Own.ex); assumption) | ((with_reducible apply Prs.ex); assumption))), (by repeat (first | assumption | ((with_reducible apply Bx.grownS); assumption; (first | omega | exact Bx.ne (by assumption) (by omega))) | ((with_reducible apply Bx.below); assumption; omega) | ((with_reducible apply Own.grownS); assumption; omega) | ((with_reducible apply Bx.ex); assumption) | ((with_reducible apply IntsK.ex); assumption) | ((with_reducible apply Own.ex); assumption) | ((with_reducible apply Prs.ex); assumption))), (by repeat (first | assumption | ((with_reducible apply Bx.grownS); assumption; (first | omega | exact Bx.ne (by assumption) (by omega))) | ((with_reducible apply Bx.below); assumption; omega) | ((with_reducible apply Own.grownS); assumption; omega) | ((with_reducible apply Bx.ex); assumption) | ((with_reducible apply IntsK.ex); assumption) | ((with_reducible apply Own.ex); assumption) | ((with_reducible apply Prs.ex); assumption))), (by repeat (first | assumption | exact Ex.refl _ | (refine Ex.trans ?_ (by assumption)) | (refine Ex.of_grown ?_ (by assumption) (by intro k hk; cases hk; omega))))⟩ ⟨rfl, rfl, rfl, rfl, rfl, rfl, rfl, rfl, rfl, rfl, rfl, trivial⟩ rfl) (by omega))
        | (with_reducible apply W_nil)
        | ((with_reducible apply WQ_nil); exact rfl; intro wq he; have hsz := he.size)
        | (with_reducible apply WM_nil; intro wq he; have hsz := he.size)
        | (with_reducible apply WB_nil)
        | (with_reducible apply WT_nil)
        | (with_reducible apply WT_cons)
        | (with_reducible apply t_sink)
        | ((with_reducible apply t_keep); (focus ((repeat (first | assumption | exact Ex.refl _ | (refine Ex.trans ?_ (by assumption)) | (refine Ex.of_grown ?_ (by assumption) (by intro k hk; cases hk; omega)))); done)); intro wq he; have hsz := he.size)
        | ((with_reducible apply W_box); exact rfl; exact rfl; intro bq wq hbq he hnq; have hltq := Bx.lt hbq; have hsz := he.size)
        | ((with_reducible apply W_alloc); exact rfl; intro bq wq hbq he hnq; have hltq := Bx.lt hbq; have hsz := he.size)
        | ((with_reducible apply W_indexInt); ((conv => lhs; whnf) <;> exact rfl); (focus ((repeat (first | assumption | ((with_reducible apply Bx.grownS); assumption; (first | omega | exact Bx.ne (by assumption) (by omega))) | ((with_reducible apply Bx.below); assumption; omega) | ((with_reducible apply Own.grownS); assumption; omega) | ((with_reducible apply Bx.ex); assumption) | ((with_reducible apply IntsK.ex); assumption) | ((with_reducible apply Own.ex); assumption) | ((with_reducible apply Prs.ex); assumption))); done)); exact rfl; omega; intro pq hpq)
        | ((with_reducible apply W_indexIntss); ((conv => lhs; whnf) <;> exact rfl); assumption; (focus ((repeat (first | assumption | exact Ex.refl _ | (refine Ex.trans ?_ (by assumption)) | (refine Ex.of_grown ?_ (by assumption) (by intro k hk; cases hk; omega)))); done)); exact rfl; omega; intro pq uq hpq huq)
        | ((with_reducible apply WQ_indexInt); ((conv => lhs; whnf) <;> exact rfl); (focus ((repeat (first | assumption | ((with_reducible apply Bx.grownS); assumption; (first | omega | exact Bx.ne (by assumption) (by omega))) | ((with_reducible apply Bx.below); assumption; omega) | ((with_reducible apply Own.grownS); assumption; omega) | ((with_reducible apply Bx.ex); assumption) | ((with_reducible apply IntsK.ex); assumption) | ((with_reducible apply Own.ex); assumption) | ((with_reducible apply Prs.ex); assumption))); done)); exact rfl; omega; intro pq hpq)
        | ((with_reducible apply WQ_indexIntss); ((conv => lhs; whnf) <;> exact rfl); assumption; (focus ((repeat (first | assumption | exact Ex.refl _ | (refine Ex.trans ?_ (by assumption)) | (refine Ex.of_grown ?_ (by assumption) (by intro k hk; cases hk; omega)))); done)); exact rfl; omega; intro pq uq hpq huq)
        | ((with_reducible apply WM_indexInt); ((conv => lhs; whnf) <;> exact rfl); (focus ((repeat (first | assumption | ((with_reducible apply Bx.grownS); assumption; (first | omega | exact Bx.ne (by assumption) (by omega))) | ((with_reducible apply Bx.below); assumption; omega) | ((with_reducible apply Own.grownS); assumption; omega) | ((with_reducible apply Bx.ex); assumption) | ((with_reducible apply IntsK.ex); assumption) | ((with_reducible apply Own.ex); assumption) | ((with_reducible apply Prs.ex); assumption))); done)); exact rfl; omega; intro pq hpq)
        | ((with_reducible apply WM_indexIntss); ((conv => lhs; whnf) <;> exact rfl); assumption; (focus ((repeat (first | assumption | exact Ex.refl _ | (refine Ex.trans ?_ (by assumption)) | (refine Ex.of_grown ?_ (by assumption) (by intro k hk; cases hk; omega)))); done)); exact rfl; omega; intro pq uq hpq huq)
        | ((with_reducible apply W_indexPr); ((conv => lhs; whnf) <;> exact rfl); (focus ((repeat (first | assumption | ((with_reducible apply Bx.grownS); assumption; (first | omega | exact Bx.ne (by assumption) (by omega))) | ((with_reducible apply Bx.below); assumption; omega) | ((with_reducible apply Own.grownS); assumption; omega) | ((with_reducible apply Bx.ex); assumption) | ((with_reducible apply IntsK.ex); assumption) | ((with_reducible apply Own.ex); assumption) | ((with_reducible apply Prs.ex); assumption))); done)); exact rfl; omega; intro pq hpq)
        | ((with_reducible apply WQ_indexPr); ((conv => lhs; whnf) <;> exact rfl); (focus ((repeat (first | assumption | ((with_reducible apply Bx.grownS); assumption; (first | omega | exact Bx.ne (by assumption) (by omega))) | ((with_reducible apply Bx.below); assumption; omega) | ((with_reducible apply Own.grownS); assumption; omega) | ((with_reducible apply Bx.ex); assumption) | ((with_reducible apply IntsK.ex); assumption) | ((with_reducible apply Own.ex); assumption) | ((with_reducible apply Prs.ex); assumption))); done)); exact rfl; omega; intro pq hpq)
        | ((with_reducible apply W_storeA); exact rfl; (focus ((repeat (first | assumption | ((with_reducible apply Bx.grownS); assumption; (first | omega | exact Bx.ne (by assumption) (by omega))) | ((with_reducible apply Bx.below); assumption; omega) | ((with_reducible apply Bx.ex); assumption))); done)); exact rfl; exact rfl; exact rfl; (repeat' (first | exact trivial | (first | exact rfl | assumption | exact IntsK.one (by assumption) | exact Prs.one (by assumption) | exact Own.one (by assumption)) | constructor)); intro wq hbq hgq; have he : Ex w wq := (by repeat (first | assumption | exact Ex.refl _ | (refine Ex.trans ?_ (by assumption)) | (refine Ex.of_grown ?_ (by assumption) (by intro k hk; cases hk; omega)))); have hsz := he.size; have hgz := hgq.size)
        | ((with_reducible apply W_store); exact rfl; (focus ((repeat (first | assumption | ((with_reducible apply Bx.grownS); assumption; (first | omega | exact Bx.ne (by assumption) (by omega))) | ((with_reducible apply Bx.below); assumption; omega) | ((with_reducible apply Bx.ex); assumption))); done)); exact Nat.le_of_ble_eq_true rfl; ((conv => lhs; whnf) <;> exact rfl); (first | exact rfl | assumption | exact IntsK.one (by assumption) | exact Prs.one (by assumption) | exact Own.one (by assumption)); simp only [lset]; intro wq hbq hgq; have he : Ex w wq := (by repeat (first | assumption | exact Ex.refl _ | (refine Ex.trans ?_ (by assumption)) | (refine Ex.of_grown ?_ (by assumption) (by intro k hk; cases hk; omega)))); have hsz := he.size; have hgz := hgq.size)
        | ((with_reducible apply W_pass); exact rfl; exact rfl; exact rfl; exact rfl; exact rfl)
        | ((with_reducible apply W_take); exact rfl; exact rfl; exact rfl)
        | ((with_reducible apply W_passU); exact rfl; exact rfl; exact rfl; exact rfl)
        | ((with_reducible apply W_split); exact rfl; exact rfl; intro _; rotate_left 1; intro _)
        | ((with_reducible apply WQ_pass); exact rfl; exact rfl; exact rfl; exact rfl; exact rfl)
        | ((with_reducible apply WQ_take); exact rfl; exact rfl; exact rfl)
        | ((with_reducible apply WQ_passU); exact rfl; exact rfl; exact rfl; exact rfl)
        | ((with_reducible apply WQ_split); exact rfl; exact rfl; intro _; rotate_left 1; intro _)
        | ((with_reducible apply WM_pass); exact rfl; exact rfl; exact rfl; exact rfl; exact rfl)
        | ((with_reducible apply WM_take); exact rfl; exact rfl; exact rfl)
        | ((with_reducible apply WM_passU); exact rfl; exact rfl; exact rfl; exact rfl)
        | ((with_reducible apply WM_split); exact rfl; exact rfl; intro _; rotate_left 1; intro _)
        | ((with_reducible apply c_quiet); kernel_rfl)
        | ((with_reducible apply W_convBytes); exact rfl; (first | assumption | (unfold maxLen; omega)); intro vq wq hvq he; have hsz := he.size)
        | (with_reducible apply c_seq)
        | ((with_reducible apply c_region); kernel_rfl)
        | (with_reducible apply n_nq)
        | (with_reducible apply c_block)
        | (with_reducible apply c_skip)
        | (with_reducible apply c_ret)
        | (with_reducible apply c_exit)
        | ((with_reducible apply c_cond_true); exact rfl)
        | ((with_reducible apply c_cond_false); exact rfl)
        | ((with_reducible apply c_cond_dec); exact rfl; intro _; rotate_left 1; intro _)
        | ((with_reducible apply c_cond_bool); exact rfl; intro _; rotate_left 1; intro _)
        | (with_reducible apply n_then)
        | (with_reducible apply n_block)
        | (with_reducible apply e_then)
        | (with_reducible apply e_block)
        | (with_reducible apply r_then)
        | (with_reducible apply r_block)
        | ((with_reducible apply e_block'); decide)
        | ((with_reducible apply p_ret1); exact rfl; exact rfl; ((conv => lhs; whnf) <;> exact rfl); refine ⟨_, rfl, ?_, (by repeat (first | assumption | exact Ex.refl _ | (refine Ex.trans ?_ (by assumption)) | (refine Ex.of_grown ?_ (by assumption) (by intro k hk; cases hk; omega))))⟩)
        | ((with_reducible apply m_ret1); (focus ((repeat (first | assumption | exact Al.nil _ _ | ((with_reducible apply Al.grownS); assumption; (focus ((repeat (first | assumption | ((with_reducible apply Bx.grownS); assumption; (first | omega | exact Bx.ne (by assumption) (by omega))) | ((with_reducible apply Bx.below); assumption; omega) | ((with_reducible apply Bx.ex); assumption))); done))) | (refine Al.ex (by assumption) ?_))); done)); exact rfl; ((conv => lhs; whnf) <;> exact rfl); refine ⟨_, rfl, ?_, (shut_grown _ _ (by repeat (first | assumption | exact Al.nil _ _ | ((with_reducible apply Al.grownS); assumption; (focus ((repeat (first | assumption | ((with_reducible apply Bx.grownS); assumption; (first | omega | exact Bx.ne (by assumption) (by omega))) | ((with_reducible apply Bx.below); assumption; omega) | ((with_reducible apply Bx.ex); assumption))); done))) | (refine Al.ex (by assumption) ?_))) (by repeat (first | assumption | exact Ex.refl _ | (refine Ex.trans ?_ (by assumption)) | (refine Ex.of_grown ?_ (by assumption) (by intro k hk; cases hk; omega)))) (Nat.le_refl _))⟩)
        | ((with_reducible apply p_retct); exact rfl; exact rfl; exact inferInstance; exact inferInstance; exact rfl; (focus ((repeat (first | assumption | ((with_reducible apply Bx.grownS); assumption; (first | omega | exact Bx.ne (by assumption) (by omega))) | ((with_reducible apply Bx.below); assumption; omega) | ((with_reducible apply Bx.ex); assumption))); done)); exact rfl; exact rfl; refine ⟨_, rfl, ?_, (by repeat (first | assumption | exact Ex.refl _ | (refine Ex.trans ?_ (by assumption)) | (refine Ex.of_grown ?_ (by assumption) (by intro k hk; cases hk; omega))))⟩)
        | ((exfalso; omega)))
    all_goals trace_state
theorem lawDays_any (g0 g1 lo0 na0 sh0 fr ln dy : Int) (w : World) (h0 : 0 ≤ g0 ∧ g0 ≤ 255) (h1 : 0 ≤ g1 ∧ g1 ≤ 255) (h2 : 0 ≤ lo0 ∧ lo0 ≤ 255) (h3 : 0 ≤ na0 ∧ na0 ≤ 255) (h4 : 0 ≤ sh0 ∧ sh0 ≤ 255) (h5 : 0 ≤ fr ∧ fr ≤ 255) (h6 : 0 ≤ ln ∧ ln ≤ 255) (h7 : 0 ≤ dy ∧ dy ≤ 65535) : Ret Try.prog 12 [.agg #[.int .u8 g0, .int .u8 g1, .int .u8 lo0, .int .u8 na0, .int .u8 sh0], .int .u8 fr, .int .u8 ln, .int .u16 dy] w fun x _ => x = .bool true := by
  by_cases hc : aHi (900 + g0 % 150 + g1 % 50) (1 + lo0 % 12) < 1
  · exact lawDays20 g0 g1 lo0 na0 sh0 fr ln dy w h0 h1 h2 h3 h4 h5 h6 h7 hc
  · exact lawDays0 g0 g1 lo0 na0 sh0 fr ln dy w h0 h1 h2 h3 h4 h5 h6 h7 hc
end Go.Proofs.Ytjcigpakljfkeaa
