/- Half sizes that are looked for: whether they are reached, whether they are nearer than the next ones, the first such ones. -/
import Derived.Test.YtgclhkiiaclkgaaSrLib
namespace Go.Proofs.Ytgclhkiiaclkgaa.Sw
open Go.RowKit Go.Shelf Ba Nh Sc Fr Lh Sr

theorem blk6 {w : World} {g : Nat} {t : TypeId} {c0 c1 c2 c3 c4 c5 : Value} (h : w.heap[g]? = some (.cells #[c0, c1, c2, c3, c4, c5] t (0, 0))) :
    (w.cell? ⟨g, 0, none⟩ = some c0 ∧ w.cell? ⟨g, 1, none⟩ = some c1 ∧ w.cell? ⟨g, 2, none⟩ = some c2 ∧ w.cell? ⟨g, 3, none⟩ = some c3) ∧ w.cell? ⟨g, 4, none⟩ = some c4 ∧ w.cell? ⟨g, 5, none⟩ = some c5 :=
  ⟨⟨cell_of_row _ _ _ _ _ _ h, cell_of_row _ _ _ _ _ _ h, cell_of_row _ _ _ _ _ _ h, cell_of_row _ _ _ _ _ _ h⟩, cell_of_row _ _ _ _ _ _ h, cell_of_row _ _ _ _ _ _ h⟩
theorem half_in {k N : Nat} (h : k < N) (hN : N ≤ 121) : inB (k : Int) 0 120 = true := in_yes (by omega) (by omega)
theorem not_lt (a b : Int) : (!decide (a < b)) = decide (b ≤ a) := by
  by_cases h : a < b <;> simp [h] <;> omega

set_option maxHeartbeats 1000000 in
set_option maxRecDepth 100000 in
/-- isReached. -/
theorem reached (s : ByteArray) (b n d l : Int) (k : Nat) (v : scB s b n d = true) (hk : k < 121) (hl : 0 ≤ l) (hl' : l ≤ 5000) (w : World) :
    Calls Try.prog 91 #[.agg #[.string s, .int .i64 b, .int .i64 n, .int .i64 d, .int .i64 l, .int .i64 1], .int .i64 k] w fun e w' => e = .returned (.bool (reach b n l d k)) ∧ Below w.heap.size w w' := by
  have hh := half_in hk (Nat.le_refl _)
  obtain ⟨p1, p2, p3, p4⟩ := num_bd v hh
  obtain ⟨q1, q2, q3, q4⟩ := low_pos p1 p3
  have LN := Lib.hid fun w => len_yes s b n d k v hh w
  have HR : Hid (reach b n l d k = !decide (((k : Int) + b) * n / gc (((k : Int) + b) * n) d * 1 < l * (d / gc (((k : Int) + b) * n) d))) := Lib.hid (by rw [reach_low p1 p3 l, not_lt]; rfl)
  have hb1 := Int.mul_nonneg hl (Int.le_of_lt q1)
  have hb2 := Int.mul_le_mul hl' (show d / gc (((k : Int) + b) * n) d ≤ 100 by omega) (Int.le_of_lt q1) (by omega)
  have LS := Lib.hid fun w => less_any (((k : Int) + b) * n / gc (((k : Int) + b) * n) d) (d / gc (((k : Int) + b) * n) d) l 1 (by omega) (by omega) hb1 (by omega) w
  clear hb1 hb2 hh p1 p2 p3 p4 q1 q2 q3 q4 v
  generalize ((k : Int) + b) * n / gc (((k : Int) + b) * n) d = X at LN LS HR
  generalize d / gc (((k : Int) + b) * n) d = Y at LN LS HR
  generalize decide (X * 1 < l * Y) = R at LS HR
  have hkn : (0 : Int) ≤ (k : Int) := Int.natCast_nonneg _
  have hkm : (k : Int) ≤ 120 := by omega
  go_enter Try.func91, Try.ntmps91
  go_wp2_with fail
  have K0 := Lib.hid (blk_new w (.cells #[.string s, .int .i64 b, .int .i64 n, .int .i64 d, .int .i64 l, .int .i64 1] 76))
  have HB0 := Lib.hid (below_box w (.cells #[.string s, .int .i64 b, .int .i64 n, .int .i64 d, .int .i64 l, .int .i64 1] 76))
  generalize w.alloc (.cells #[.string s, .int .i64 b, .int .i64 n, .int .i64 d, .int .i64 l, .int .i64 1] 76) = W0 at K0 HB0 ⊢
  have la := lt_of_heap K0.out
  obtain ⟨⟨x0, x1, x2, x3⟩, x4, x5⟩ := blk6 K0.out
  go_region_held3 (fun w' => w'.cell? ⟨w.heap.size, 0, none⟩ = some (.string s) ∧ w'.cell? ⟨w.heap.size, 1, none⟩ = some (.int .i64 b) ∧ w'.cell? ⟨w.heap.size, 2, none⟩ = some (.int .i64 n) ∧ w'.cell? ⟨w.heap.size, 3, none⟩ = some (.int .i64 d) ∧ w'.cell? ⟨w.heap.size, 4, none⟩ = some (.int .i64 l) ∧ w'.cell? ⟨w.heap.size, 5, none⟩ = some (.int .i64 1))
    (first | go_keep | (refine ⟨?_, ?_, ?_, ?_, ?_, ?_⟩ <;> (refine keep_of (w2 := W0) ?_ (by omega) (by assumption); (repeat (first | exact Below.refl _ _ | exact B1 | exact B2 | refine Below.drew ?_ | refine Below.alloc ?_ (by first | omega | (simp <;> omega)) _)))))
    (first | (go_at_call 98; refine (LN.out _).mono ?_; rintro e w1 ⟨rfl, b1⟩; have B1 := below_then (w0 := W0) ?_ b1; rotate_left; (focus (repeat (first | exact Below.refl _ _ | refine Below.drew ?_))); have q1 := B1.size) | (go_at_call 63; refine (LS.out _).mono ?_; rintro e w2 ⟨rfl, b2⟩; have B2 := below_then (w0 := W0) ?_ b2; rotate_left; (focus (repeat (first | exact Below.refl _ _ | exact B1 | refine Below.drew ?_))); have q2 := B2.size))
  all_goals
    have HQ := Lib.hid (below_then HB0.out B2)
    go_wp2_with fail
    go_ret
    exact ⟨ret_bool HR.out.symm, HQ.out⟩

theorem mid_bd {s : ByteArray} {b n d half : Int} (v : scB s b n d = true) (hh : inB half 0 120 = true) : 0 ≤ (2 * (half + b) + 1) * n ∧ (2 * (half + b) + 1) * n ≤ 441000 := by
  have hv := sc_of v
  have hb := in_of hh
  have a := Int.mul_nonneg (show 0 ≤ 2 * (half + b) + 1 by omega) (show 0 ≤ n by omega)
  have c1 := Int.mul_le_mul (show 2 * (half + b) + 1 ≤ 441 by omega) (show n ≤ 1000 by omega) (by omega) (by omega)
  omega
set_option maxHeartbeats 1000000 in
/-- middle. -/
theorem mid_any (s : ByteArray) (b n d half : Int) (v : scB s b n d = true) (hh : inB half 0 120 = true) (w : World) :
    Calls Try.prog 99 #[.agg #[.string s, .int .i64 b, .int .i64 n, .int .i64 d], .int .i64 half] w fun e w' => e = .returned (.agg #[.int .i64 ((2 * (half + b) + 1) * n), .int .i64 (2 * d)]) ∧ Below w.heap.size w w' := by
  obtain ⟨m1, m2⟩ := mid_bd v hh
  have hv := sc_of v
  have hb := in_of hh
  have q1 : 0 ≤ half + b := by omega
  have q2 : half + b ≤ 220 := by omega
  have q3 : 0 ≤ d := by omega
  have q4 : d ≤ 100 := by omega
  clear hv hb v hh
  go_enter Try.func99, Try.ntmps99
  go_wp2_with fail
  all_goals (try go_region)
  all_goals (try go_wp2_with fail)
  all_goals
    exact bodyPost_ret (v := .agg #[.int .i64 ((2 * (half + b) + 1) * n), .int .i64 (2 * d)]) (by simp [results, Try.results99, go_sem]) rfl ⟨rfl, by repeat (first | exact Below.refl _ _ | refine Below.drew ?_ | refine Below.drewN ?_ _ | refine Below.setCell ?_ (by simp) _ | refine Below.alloc ?_ (by simp) _)⟩
set_option maxHeartbeats 1000000 in
set_option maxRecDepth 100000 in
/-- isNotNearerToNext. -/
theorem nearer (s : ByteArray) (b n d p q : Int) (k : Nat) (v : scB s b n d = true) (hk : k < 120) (hp : 0 ≤ p) (hp' : p ≤ 220000) (hq : 0 < q) (hq' : q ≤ 100) (w : World) :
    Calls Try.prog 92 #[.agg #[.string s, .int .i64 b, .int .i64 n, .int .i64 d, .int .i64 p, .int .i64 q], .int .i64 k] w fun e w' => e = .returned (.bool (near b n d p q k)) ∧ Below w.heap.size w w' := by
  have hh := half_in hk (show 120 ≤ 121 by omega)
  obtain ⟨m1, m2⟩ := mid_bd v hh
  have hv := sc_of v
  have LN := Lib.hid fun w => mid_any s b n d k v hh w
  have HR : Hid (near b n d p q k = !decide ((2 * ((k : Int) + b) + 1) * n * q < p * (2 * d))) := Lib.hid (by
    rw [not_lt]; unfold near; congr 2; grind)
  have hb1 := Int.mul_nonneg m1 (Int.le_of_lt hq)
  have hb2 := Int.mul_le_mul m2 hq' (Int.le_of_lt hq) (by omega)
  have hb3 := Int.mul_nonneg hp (show 0 ≤ 2 * d by omega)
  have hb4 := Int.mul_le_mul hp' (show 2 * d ≤ 200 by omega) (by omega) (by omega)
  have LS := Lib.hid fun w => less_any ((2 * ((k : Int) + b) + 1) * n) (2 * d) p q hb1 (by omega) hb3 (by omega) w
  clear hb1 hb2 hb3 hb4 hh m1 m2 hv v hp hp' hq hq'
  generalize decide ((2 * ((k : Int) + b) + 1) * n * q < p * (2 * d)) = R at LS HR
  generalize (2 * ((k : Int) + b) + 1) * n = X at LN LS
  generalize 2 * d = Y at LN LS
  have hkn : (0 : Int) ≤ (k : Int) := Int.natCast_nonneg _
  have hkm : (k : Int) ≤ 120 := by omega
  go_enter Try.func92, Try.ntmps92
  go_wp2_with fail
  have K0 := Lib.hid (blk_new w (.cells #[.string s, .int .i64 b, .int .i64 n, .int .i64 d, .int .i64 p, .int .i64 q] 76))
  have HB0 := Lib.hid (below_box w (.cells #[.string s, .int .i64 b, .int .i64 n, .int .i64 d, .int .i64 p, .int .i64 q] 76))
  generalize w.alloc (.cells #[.string s, .int .i64 b, .int .i64 n, .int .i64 d, .int .i64 p, .int .i64 q] 76) = W0 at K0 HB0 ⊢
  have la := lt_of_heap K0.out
  obtain ⟨⟨x0, x1, x2, x3⟩, x4, x5⟩ := blk6 K0.out
  go_region_held3 (fun w' => w'.cell? ⟨w.heap.size, 0, none⟩ = some (.string s) ∧ w'.cell? ⟨w.heap.size, 1, none⟩ = some (.int .i64 b) ∧ w'.cell? ⟨w.heap.size, 2, none⟩ = some (.int .i64 n) ∧ w'.cell? ⟨w.heap.size, 3, none⟩ = some (.int .i64 d) ∧ w'.cell? ⟨w.heap.size, 4, none⟩ = some (.int .i64 p) ∧ w'.cell? ⟨w.heap.size, 5, none⟩ = some (.int .i64 q))
    (first | go_keep | (refine ⟨?_, ?_, ?_, ?_, ?_, ?_⟩ <;> (refine keep_of (w2 := W0) ?_ (by omega) (by assumption); (repeat (first | exact Below.refl _ _ | exact B1 | exact B2 | refine Below.drew ?_ | refine Below.alloc ?_ (by first | omega | (simp <;> omega)) _)))))
    (first | (go_at_call 99; refine (LN.out _).mono ?_; rintro e w1 ⟨rfl, b1⟩; have B1 := below_then (w0 := W0) ?_ b1; rotate_left; (focus (repeat (first | exact Below.refl _ _ | refine Below.drew ?_))); have z1 := B1.size) | (go_at_call 63; refine (LS.out _).mono ?_; rintro e w2 ⟨rfl, b2⟩; have B2 := below_then (w0 := W0) ?_ b2; rotate_left; (focus (repeat (first | exact Below.refl _ _ | exact B1 | refine Below.drew ?_))); have z2 := B2.size))
  all_goals
    have HQ := Lib.hid (below_then HB0.out B2)
    go_wp2_with fail
    go_ret
    exact ⟨ret_bool HR.out.symm, HQ.out⟩

/-- The condition at a place, and the first place from which it holds. -/
theorem least_at (b n d l : Int) (hn : 0 ≤ n) : ∀ t, t < 121 → reach b n l d t = decide (least b n l d ≤ t) := cut_iff 121 _ (reach_mono b n l d hn 121)
theorem nearest_at (b n d p q : Int) (hn : 0 ≤ n) (hq : 0 ≤ q) : ∀ t, t < 120 → near b n d p q t = decide (nearest b n d p q ≤ t) := cut_iff 120 _ (near_mono b n d p q hn hq 120)
theorem least_half (s : ByteArray) (b n d l : Int) (v : scB s b n d = true) (hl : 0 ≤ l) (hl' : l ≤ 5000) (w : World) :
    Calls Try.prog 77 #[.agg #[.string s, .int .i64 b, .int .i64 n, .int .i64 d, .int .i64 l, .int .i64 1]] w fun e w' => e = .returned (.int .i64 (least b n l d : Int)) ∧ Below w.heap.size w w' := by
  have eg : ∀ args w, (callFunc 91 args).run Try.prog w = .ok (.enter 91 args) w := enters_of Try.func91 (by kernel_rfl) rfl
  have hv := sc_of v
  have hlow : least b n l d ≤ 121 := cut_le _ _
  have S := Lib.hid fun w => search_any 91 #[.agg #[.string s, .int .i64 b, .int .i64 n, .int .i64 d, .int .i64 l, .int .i64 1]] 121 (least b n l d) (by omega) hlow w eg
    (fun W i hi => by have := reached s b n d l i v hi hl hl' W; rw [least_at b n d l (by omega) i hi] at this; exact this)
  generalize least b n l d = c at S hlow ⊢
  clear eg hv v hl hl'
  go_enter Try.func77, Try.ntmps77
  go_wp2_with fail
  refine (S.out _).mono ?_
  rintro e w1 ⟨rfl, b1⟩
  go_wp2_with fail
  go_ret
  exact ⟨rfl, below_then (below_box _ _) b1⟩
theorem nearest_half (s : ByteArray) (b n d p q : Int) (v : scB s b n d = true) (hp : 0 ≤ p) (hp' : p ≤ 220000) (hq : 0 < q) (hq' : q ≤ 100) (w : World) :
    Calls Try.prog 79 #[.agg #[.string s, .int .i64 b, .int .i64 n, .int .i64 d, .int .i64 p, .int .i64 q]] w fun e w' => e = .returned (.int .i64 (nearest b n d p q : Int)) ∧ Below w.heap.size w w' := by
  have eg : ∀ args w, (callFunc 92 args).run Try.prog w = .ok (.enter 92 args) w := enters_of Try.func92 (by kernel_rfl) rfl
  have hv := sc_of v
  have hlow : nearest b n d p q ≤ 120 := cut_le _ _
  have S := Lib.hid fun w => search_any 92 #[.agg #[.string s, .int .i64 b, .int .i64 n, .int .i64 d, .int .i64 p, .int .i64 q]] 120 (nearest b n d p q) (by omega) hlow w eg
    (fun W i hi => by have := nearer s b n d p q i v hi hp hp' hq hq' W; rw [nearest_at b n d p q (by omega) (by omega) i hi] at this; exact this)
  generalize nearest b n d p q = c at S hlow ⊢
  clear eg hv v hp hp' hq hq'
  go_enter Try.func79, Try.ntmps79
  go_wp2_with fail
  refine (S.out _).mono ?_
  rintro e w1 ⟨rfl, b1⟩
  go_wp2_with fail
  go_ret
  exact ⟨rfl, below_then (below_box _ _) b1⟩
end Go.Proofs.Ytgclhkiiaclkgaa.Sw
