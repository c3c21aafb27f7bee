/- A measure that has grown; a graded last; both functions GradeLast's parts. -/
import Derived.Test.YtaoknbhpjnileaaJoLib
import Derived.Test.YtaoknbhpjnileaaFgLib
import Derived.Test.YtaoknbhpjnileaaBxLib
import Derived.IntWalk
namespace Go.Proofs.Ytaoknbhpjnileaa.Gl
open Go.RowKit Go.Shelf Ft Ge Qb La Ga Fg Jo

/-- A measure after some half sizes. -/
def gw (x g st : Int) : Int := x + fl (2 * (g * st) + 100) (2 * 100)
theorem prod30 {g st : Int} (h1 : 0 ≤ g) (h2 : g ≤ 20000) (h3 : -30 ≤ st) (h4 : st ≤ 30) : -600000 ≤ g * st ∧ g * st ≤ 600000 := by
  have a := Int.mul_le_mul_of_nonneg_left h4 h1
  have b := Int.mul_le_mul_of_nonneg_left h3 h1
  omega
theorem fl_bd {a : Int} (b : Int) (h1 : -1000000000000000000 ≤ a) (h2 : a ≤ 1000000000000000000) : -1000000000000000001 ≤ fl a b ∧ fl a b ≤ 1000000000000000000 := by
  have h := tdiv_bd b h1 h2
  unfold fl
  split <;> omega
theorem grown_any (x g st : Int) (hx : -1000000 ≤ x) (hx' : x ≤ 1000000) (h1 : 0 ≤ g) (h2 : g ≤ 20000) (h3 : -30 ≤ st) (h4 : st ≤ 30) (w : World) :
    Calls Try.prog 108 #[.int .i64 x, .int .i64 g, .int .i64 st] w fun e w' => e = .returned (.int .i64 (gw x g st)) ∧ w = w' := by
  obtain ⟨p1, p2⟩ := prod30 h1 h2 h3 h4
  have C := Lib.hid (fun w => near_impl (g * st) 100 (by omega) (by omega) (by omega) (by omega) w)
  have HG : Hid (gw x g st = x + fl (2 * (g * st) + 100) (2 * 100)) := Lib.hid rfl
  obtain ⟨q1, q2⟩ := fl_bd (a := 2 * (g * st) + 100) (2 * 100) (by omega) (by omega)
  have hwm : IntKind.i64.wrap (g * st) = g * st := IntWalk.i64_in _ (by omega)
  generalize fl (2 * (g * st) + 100) (2 * 100) = r at C HG q1 q2
  generalize gw x g st = v at HG ⊢
  go_enter Try.func108, Try.ntmps108
  go_wp2_with fail
  refine (C.out _).mono ?_
  rintro e w' ⟨rfl, rfl⟩
  go_wp2_with fail
  go_ret
  exact ⟨by rw [HG.out]; rfl, rfl⟩
theorem add_any (x g st : Int) (hx : -1000000 ≤ x) (hx' : x ≤ 1000000) (h1 : 0 ≤ g) (h2 : g ≤ 20000) (h3 : -30 ≤ st) (h4 : st ≤ 30) (w : World) :
    Calls Try.prog 105 #[.int .i64 x, .int .i64 g, .int .i64 st] w fun e w' => e = .returned (.int .i64 (gw x g st)) ∧ w = w' := by
  obtain ⟨p1, p2⟩ := prod30 h1 h2 h3 h4
  have C := Lib.hid (fun w => near_spec (g * st) 100 (by omega) (by omega) (by omega) (by omega) w)
  have HG : Hid (gw x g st = x + fl (2 * (g * st) + 100) (2 * 100)) := Lib.hid rfl
  obtain ⟨q1, q2⟩ := fl_bd (a := 2 * (g * st) + 100) (2 * 100) (by omega) (by omega)
  have hwm : IntKind.i64.wrap (g * st) = g * st := IntWalk.i64_in _ (by omega)
  generalize fl (2 * (g * st) + 100) (2 * 100) = r at C HG q1 q2
  generalize gw x g st = v at HG ⊢
  go_enter Try.func105, Try.ntmps105
  go_wp2_with fail
  refine (C.out _).mono ?_
  rintro e w' ⟨rfl, rfl⟩
  go_wp2_with fail
  go_ret
  exact ⟨by rw [HG.out]; rfl, rfl⟩
/-- A last after some half sizes. -/
def ag (x g : Nat → Int) (st : Int) (k : Nat) : Int := gw (x k) (g k) st
/-- All measures are those of a valid last. -/
theorem la_at {s : ByteArray} {x : Nat → Int} (h : laB s x = true) {k : Nat} (hk : k < 5) : -1000000 ≤ x k ∧ x k ≤ 1000000 := by
  simp [laB, ftB, inB] at h
  obtain rfl | rfl | rfl | rfl | rfl : k = 0 ∨ k = 1 ∨ k = 2 ∨ k = 3 ∨ k = 4 := by omega
  all_goals omega
theorem clo_any (x g st : Int) (gs : Nat) (hx : -1000000 ≤ x) (hx' : x ≤ 1000000) (h1 : 0 ≤ g) (h2 : g ≤ 20000) (h3 : -30 ≤ st) (h4 : st ≤ 30) (w : World) (hc : w.cell? ⟨gs, 0, none⟩ = some (.int .i64 st)) :
    Calls Try.prog 107 #[.int .i64 x, .int .i64 g, .pointer (some ⟨gs, 0, none⟩)] w fun e w' => e = .returned (.int .i64 (gw x g st)) ∧ w = w' := by
  have C := Lib.hid (fun w => grown_any x g st hx hx' h1 h2 h3 h4 w)
  generalize gw x g st = v at C ⊢
  go_enter Try.func107, Try.ntmps107
  go_wp2_with fail
  refine (C.out _).mono ?_
  rintro e w' ⟨rfl, rfl⟩
  go_wp2_with fail
  go_ret
  exact ⟨rfl, rfl⟩
theorem last_any (s : ByteArray) (m : Nat → Int) (w : World) : Calls Try.prog 79 #[fvV m, .string s] w fun e w' => e = .returned (laV s m) ∧ Below w.heap.size w w' := by
  unfold fvV laV
  generalize m 0 = f0, m 1 = f1, m 2 = f2, m 3 = f3, m 4 = f4
  go_enter Try.func79, Try.ntmps79
  go_wp2
  exact bodyPost_ret (v := .agg #[.string s, .int .i64 f0, .int .i64 f1, .int .i64 f2, .int .i64 f3, .int .i64 f4]) (by simp [results, Try.results79, go_sem]) rfl ⟨rfl, by repeat (first | exact Below.refl _ _ | exact below_box _ _ | refine Below.setCell ?_ (by simp <;> omega) _ | refine Below.drew ?_ | refine Below.alloc ?_ (by simp <;> omega) _)⟩
/-- A last and its grade. -/
abbrev gdV (s : ByteArray) (x g : Nat → Int) : Value := .agg #[.string s, .int .i64 (x 0), .int .i64 (x 1), .int .i64 (x 2), .int .i64 (x 3), .int .i64 (x 4), .int .i64 (g 0), .int .i64 (g 1), .int .i64 (g 2), .int .i64 (g 3), .int .i64 (g 4)]
abbrev gdC (s : ByteArray) (x g : Nat → Int) (t : TypeId) : Obj := .cells #[.string s, .int .i64 (x 0), .int .i64 (x 1), .int .i64 (x 2), .int .i64 (x 3), .int .i64 (x 4), .int .i64 (g 0), .int .i64 (g 1), .int .i64 (g 2), .int .i64 (g 3), .int .i64 (g 4)] t
theorem blk11 {w : World} {g : Nat} {t : TypeId} {c0 c1 c2 c3 c4 c5 c6 c7 c8 c9 c10 : Value} (h : w.heap[g]? = some (.cells #[c0, c1, c2, c3, c4, c5, c6, c7, c8, c9, c10] t (0, 0))) :
    w.cell? ⟨g, 0, none⟩ = some c0 ∧ w.cell? ⟨g, 1, none⟩ = some c1 ∧ w.cell? ⟨g, 2, none⟩ = some c2 ∧ w.cell? ⟨g, 3, none⟩ = some c3 ∧ w.cell? ⟨g, 4, none⟩ = some c4 ∧ w.cell? ⟨g, 5, none⟩ = some c5 ∧ w.cell? ⟨g, 6, none⟩ = some c6 ∧ w.cell? ⟨g, 7, none⟩ = some c7 ∧ w.cell? ⟨g, 8, none⟩ = some c8 ∧ w.cell? ⟨g, 9, none⟩ = some c9 ∧ w.cell? ⟨g, 10, none⟩ = some c10 := by
  refine ⟨?_, ?_, ?_, ?_, ?_, ?_, ?_, ?_, ?_, ?_, ?_⟩ <;> simp [World.cell?, h]
set_option maxRecDepth 100000 in
theorem gval_any (s : ByteArray) (x g : Nat → Int) (hs : s.size ≤ maxLen) (w : World) : Calls Try.prog 87 #[gdV s x g] w fun e w' => e = .returned (.bool (laB s x && grB g)) ∧ Below w.heap.size w w' := by
  have C1 := Lib.hid (fun w => one_impl s x hs w)
  have C2 := Lib.hid (fun w => valid_gr g w)
  have K := Lib.hid (heap_alloc_new w (gdC s x g 108))
  have HB := Lib.hid (below_box w (gdC s x g 108))
  generalize laB s x = r1 at C1 ⊢
  generalize grB g = r2 at C2 ⊢
  simp only [laV, fvV, gdC, gdV] at C1 C2 K HB ⊢
  generalize x 0 = x0, x 1 = x1, x 2 = x2, x 3 = x3, x 4 = x4, g 0 = g0, g 1 = g1, g 2 = g2, g 3 = g3, g 4 = g4 at *
  obtain ⟨y0, y1, y2, y3, y4, y5, y6, y7, y8, y9, y10⟩ := blk11 K.out
  cases r1
  · go_enter Try.func87, Try.ntmps87
    go_wp2_with fail
    refine (C1.out _).mono ?_
    rintro e w1 ⟨rfl, b1⟩
    have HB1 := Lib.hid (below_then HB.out b1)
    clear b1 y0 y1 y2 y3 y4 y5 y6 y7 y8 y9 y10
    go_wp2_with fail
    go_ret
    exact ⟨rfl, HB1.out⟩
  · go_enter Try.func87, Try.ntmps87
    go_wp2_with fail
    refine (C1.out _).mono ?_
    rintro e w1 ⟨rfl, b1⟩
    have HB1 := Lib.hid (below_then HB.out b1)
    have K1 := Lib.hid (blk_keep b1 K.out)
    clear b1 y0 y1 y2 y3 y4 y5 y6 y7 y8 y9 y10
    obtain ⟨y0, y1, y2, y3, y4, y5, y6, y7, y8, y9, y10⟩ := blk11 K1.out
    go_wp2_with fail
    refine (C2.out _).mono ?_
    rintro e w2 ⟨rfl, b2⟩
    have HB2 := Lib.hid (below_then HB1.out b2)
    clear b2 y0 y1 y2 y3 y4 y5 y6 y7 y8 y9 y10
    go_wp2_with fail
    go_ret
    exact ⟨rfl, HB2.out⟩
end Go.Proofs.Ytaoknbhpjnileaa.Gl
