/- The walk of the law of LargerFoot. -/
import Derived.Test.YtcpclgoclconcabLgImpl
namespace Go.Proofs.Ytcpclgoclconcab.Lg
open Go.RowKit Ft Fs Ld

/-- The law's copy of a foot, with the very world that the call leaves. -/
theorem to_exact (l b i h : Int) (w : World) : Calls Try.prog 26 #[.agg #[.int .i64 l, .int .i64 b, .int .i64 i, .int .i64 h]] w fun e w' => e = .returned (.agg #[.int .i64 l, .int .i64 b, .int .i64 i, .int .i64 h]) ∧
    (((w.alloc (.cells #[.int .i64 l, .int .i64 b, .int .i64 i, .int .i64 h] 41)).alloc (.cells #[.int .i64 l, .int .i64 b, .int .i64 i, .int .i64 h] 25)).alloc (.cells #[.int .i64 l, .int .i64 b, .int .i64 i, .int .i64 h] 25)) = w' := by
  go_enter Try.func26, Try.ntmps26
  go_wp2
  exact bodyPost_ret (v := .agg #[.int .i64 l, .int .i64 b, .int .i64 i, .int .i64 h]) (by simp [results, Try.results26, go_sem]) rfl ⟨rfl, rfl⟩
theorem keep4 {W wn : World} (bn : Below W.heap.size W wn) {g : Nat} (hg : g < W.heap.size) : (∀ o, wn.cell? ⟨g, o, none⟩ = W.cell? ⟨g, o, none⟩) ∧ (∀ o, wn.frozen? ⟨g, o, none⟩ = W.frozen? ⟨g, o, none⟩) :=
  ⟨fun o => bn.cell (p := ⟨g, o, none⟩) hg, fun o => bn.frozen (p := ⟨g, o, none⟩) hg⟩
theorem set_cells {w1 : World} {g : Nat} {u v0 v1 v2 v3 : Value} (h0 : w1.cell? ⟨g, 0, none⟩ = some u) (h1 : w1.cell? ⟨g, 1, none⟩ = some u) (h2 : w1.cell? ⟨g, 2, none⟩ = some u) (h3 : w1.cell? ⟨g, 3, none⟩ = some u) :
    (((((w1.setCell ⟨g, 0, none⟩ v0).setCell ⟨g, 1, none⟩ v1).setCell ⟨g, 2, none⟩ v2).setCell ⟨g, 3, none⟩ v3).drew).cell? ⟨g, 0, none⟩ = some v0 ∧ (((((w1.setCell ⟨g, 0, none⟩ v0).setCell ⟨g, 1, none⟩ v1).setCell ⟨g, 2, none⟩ v2).setCell ⟨g, 3, none⟩ v3).drew).cell? ⟨g, 1, none⟩ = some v1 ∧
    (((((w1.setCell ⟨g, 0, none⟩ v0).setCell ⟨g, 1, none⟩ v1).setCell ⟨g, 2, none⟩ v2).setCell ⟨g, 3, none⟩ v3).drew).cell? ⟨g, 2, none⟩ = some v2 ∧ (((((w1.setCell ⟨g, 0, none⟩ v0).setCell ⟨g, 1, none⟩ v1).setCell ⟨g, 2, none⟩ v2).setCell ⟨g, 3, none⟩ v3).drew).cell? ⟨g, 3, none⟩ = some v3 := by
  have ne : ∀ i j : Nat, i ≠ j → (⟨g, i, none⟩ : Addr) ≠ ⟨g, j, none⟩ := fun i j h q => h (Addr.mk.inj q).2.1
  have s0 := World.cell?_setCell_same w1 ⟨g, 0, none⟩ v0 h0
  have k1 := (World.cell?_setCell_other w1 ⟨g, 0, none⟩ ⟨g, 1, none⟩ v0 (ne 0 1 (by omega))).trans h1
  have k2 := (World.cell?_setCell_other w1 ⟨g, 0, none⟩ ⟨g, 2, none⟩ v0 (ne 0 2 (by omega))).trans h2
  have k3 := (World.cell?_setCell_other w1 ⟨g, 0, none⟩ ⟨g, 3, none⟩ v0 (ne 0 3 (by omega))).trans h3
  generalize w1.setCell ⟨g, 0, none⟩ v0 = w2 at *
  have s1 := World.cell?_setCell_same w2 ⟨g, 1, none⟩ v1 k1
  have t0 := (World.cell?_setCell_other w2 ⟨g, 1, none⟩ ⟨g, 0, none⟩ v1 (ne 1 0 (by omega))).trans s0
  have l2 := (World.cell?_setCell_other w2 ⟨g, 1, none⟩ ⟨g, 2, none⟩ v1 (ne 1 2 (by omega))).trans k2
  have l3 := (World.cell?_setCell_other w2 ⟨g, 1, none⟩ ⟨g, 3, none⟩ v1 (ne 1 3 (by omega))).trans k3
  generalize w2.setCell ⟨g, 1, none⟩ v1 = w3 at *
  have s2 := World.cell?_setCell_same w3 ⟨g, 2, none⟩ v2 l2
  have u0 := (World.cell?_setCell_other w3 ⟨g, 2, none⟩ ⟨g, 0, none⟩ v2 (ne 2 0 (by omega))).trans t0
  have u1 := (World.cell?_setCell_other w3 ⟨g, 2, none⟩ ⟨g, 1, none⟩ v2 (ne 2 1 (by omega))).trans s1
  have m3 := (World.cell?_setCell_other w3 ⟨g, 2, none⟩ ⟨g, 3, none⟩ v2 (ne 2 3 (by omega))).trans l3
  generalize w3.setCell ⟨g, 2, none⟩ v2 = w4 at *
  exact ⟨(World.cell?_setCell_other w4 ⟨g, 3, none⟩ ⟨g, 0, none⟩ v3 (ne 3 0 (by omega))).trans u0, (World.cell?_setCell_other w4 ⟨g, 3, none⟩ ⟨g, 1, none⟩ v3 (ne 3 1 (by omega))).trans u1, (World.cell?_setCell_other w4 ⟨g, 3, none⟩ ⟨g, 2, none⟩ v3 (ne 3 2 (by omega))).trans s2, World.cell?_setCell_same w4 ⟨g, 3, none⟩ v3 m3⟩
theorem two (w : World) (A B : Obj) : ((w.alloc A).alloc B).heap[w.heap.size]? = some A ∧ ((w.alloc A).alloc B).heap[w.heap.size + 1]? = some B := by
  refine ⟨?_, ?_⟩
  · rw [Below.heap_alloc _ _ _ (by simp)]; exact heap_alloc_new _ _
  · have := heap_alloc_new (w.alloc A) B
    simpa using this

set_option maxRecDepth 100000 in
set_option maxHeartbeats 8000000 in
/-- Where both functions answer alike, the law returns true. -/
theorem core (a b m : Nat → Int) (c : Int) (w : World)
    (CS : Hid (∀ w, Calls Try.prog 25 #[.agg #[.int .i64 (a 0), .int .i64 (a 1), .int .i64 (a 2), .int .i64 (a 3)], .agg #[.int .i64 (b 0), .int .i64 (b 1), .int .i64 (b 2), .int .i64 (b 3)]] w fun e w' => e = .returned (.tuple #[.agg #[.int .i64 (m 0), .int .i64 (m 1), .int .i64 (m 2), .int .i64 (m 3)], .int .i64 c]) ∧ Below w.heap.size w w'))
    (CI : Hid (∀ w, Calls Try.prog 27 #[.agg #[.int .i64 (a 0), .int .i64 (a 1), .int .i64 (a 2), .int .i64 (a 3)], .agg #[.int .i64 (b 0), .int .i64 (b 1), .int .i64 (b 2), .int .i64 (b 3)]] w fun e w' => e = .returned (.tuple #[.agg #[.int .i64 (m 0), .int .i64 (m 1), .int .i64 (m 2), .int .i64 (m 3)], .int .i64 c]) ∧ Below w.heap.size w w')) :
    Calls Try.prog 6 #[.agg #[.int .i64 (a 0), .int .i64 (a 1), .int .i64 (a 2), .int .i64 (a 3)], .agg #[.int .i64 (b 0), .int .i64 (b 1), .int .i64 (b 2), .int .i64 (b 3)]] w fun e w' => e = .returned (.bool true) ∧ Below w.heap.size w w' := by
  obtain ⟨ka, kb⟩ := two w (.cells #[.int .i64 (a 0), .int .i64 (a 1), .int .i64 (a 2), .int .i64 (a 3)] 41) (.cells #[.int .i64 (b 0), .int .i64 (b 1), .int .i64 (b 2), .int .i64 (b 3)] 41)
  have HB0 := Lib.hid ((below_box w (.cells #[.int .i64 (a 0), .int .i64 (a 1), .int .i64 (a 2), .int .i64 (a 3)] 41)).alloc (by simp) (.cells #[.int .i64 (b 0), .int .i64 (b 1), .int .i64 (b 2), .int .i64 (b 3)] 41))
  have KA := Lib.hid ka
  have KB := Lib.hid kb
  clear ka kb
  go_enter Try.func6, Try.ntmps6
  go_upto_region 1 with fail
  generalize (w.alloc (.cells #[.int .i64 (a 0), .int .i64 (a 1), .int .i64 (a 2), .int .i64 (a 3)] 41)).alloc (.cells #[.int .i64 (b 0), .int .i64 (b 1), .int .i64 (b 2), .int .i64 (b 3)] 41) = W0 at KA KB HB0 ⊢
  have la := lt_of_heap KA.out
  have lb := lt_of_heap KB.out
  go_cut [5, 6] (fun s5 s6 wx => ∃ g : Nat, s5 = .pointer (some ⟨g, 0, none⟩) ∧ s6 = .int .i64 c ∧ w.heap.size ≤ g ∧ g < wx.heap.size ∧ Below W0.heap.size W0 wx ∧ Hid (wx.cell? ⟨g, 0, none⟩ = some (.int .i64 (m 0)) ∧ wx.cell? ⟨g, 1, none⟩ = some (.int .i64 (m 1)) ∧ wx.cell? ⟨g, 2, none⟩ = some (.int .i64 (m 2)) ∧ wx.cell? ⟨g, 3, none⟩ = some (.int .i64 (m 3))))
  case first =>
    obtain ⟨x0, x1, x2, x3⟩ := blk4 KA.out
    obtain ⟨y0, y1, y2, y3⟩ := blk4 KB.out
    go_region_held3 (fun w' => w'.cell? ⟨w.heap.size, 0, none⟩ = some (.int .i64 (a 0)) ∧ w'.cell? ⟨w.heap.size, 1, none⟩ = some (.int .i64 (a 1)) ∧ w'.cell? ⟨w.heap.size, 2, none⟩ = some (.int .i64 (a 2)) ∧ w'.cell? ⟨w.heap.size, 3, none⟩ = some (.int .i64 (a 3)) ∧ w'.cell? ⟨w.heap.size + 1, 0, none⟩ = some (.int .i64 (b 0)) ∧ w'.cell? ⟨w.heap.size + 1, 1, none⟩ = some (.int .i64 (b 1)) ∧ w'.cell? ⟨w.heap.size + 1, 2, none⟩ = some (.int .i64 (b 2)) ∧ w'.cell? ⟨w.heap.size + 1, 3, none⟩ = some (.int .i64 (b 3)))
      (first | (refine ⟨?_, ?_, ?_, ?_, ?_, ?_, ?_, ?_⟩ <;> (refine keep_of (w2 := W0) ?_ (by omega) (by assumption); (repeat (first | exact Below.refl _ _ | exact B1 | refine Below.drew ?_ | refine Below.alloc ?_ (by first | omega | (simp <;> omega)) _ | refine Below.setCell ?_ (by first | omega | (simp <;> omega)) _)))))
      (first | (go_at_call 26; refine (to_exact _ _ _ _ _).mono ?_; rintro e wt ⟨rfl, rfl⟩) | (go_at_call 25; refine (CS.out _).mono ?_; rintro e w1 ⟨rfl, b1⟩; have B1 := below_then (w0 := W0) ?_ b1; rotate_left; (focus (repeat (first | exact Below.refl _ _ | refine Below.drew ?_ | refine Below.alloc ?_ (by first | omega | (simp <;> omega)) _ | refine Below.setCell ?_ (by first | omega | (simp <;> omega)) _))); have q1 := B1.size; have q2 := b1.size; (try simp at q2); (try (have c0 := keep4 (g := W0.heap.size) b1 ?_; rotate_left; focus (first | omega | (simp; done) | (simp; omega)))); (try (have c1 := keep4 (g := W0.heap.size + 3) b1 ?_; rotate_left; focus (first | omega | (simp; done) | (simp; omega)))); (try (have c2 := keep4 (g := W0.heap.size + 6) b1 ?_; rotate_left; focus (first | omega | (simp; done) | (simp; omega))))))
    all_goals
      go_wp2_with fail
      go_meet
      refine ⟨_, rfl, rfl, ?_, ?_, ?_, Lib.hid ?_⟩
      · first | omega | (simp <;> omega)
      · first | omega | (simp <;> omega)
      · (repeat (first | exact Below.refl _ _ | exact B1 | refine Below.drew ?_ | refine Below.alloc ?_ (by first | omega | (simp <;> omega)) _ | refine Below.setCell ?_ (by first | omega | (simp <;> omega)) _))
      · first | (go_simp; done) | exact set_cells (u := .int .i64 0) (by go_simp) (by go_simp) (by go_simp) (by go_simp)
  case rest =>
    obtain ⟨g5, rfl, rfl, hg5, hl5, hb5, hc5⟩ := hcut
    obtain ⟨x0, x1, x2, x3⟩ := blk4 KA.out
    obtain ⟨y0, y1, y2, y3⟩ := blk4 KB.out
    have XA : Hid (wc.cell? ⟨w.heap.size, 0, none⟩ = some (.int .i64 (a 0)) ∧ wc.cell? ⟨w.heap.size, 1, none⟩ = some (.int .i64 (a 1)) ∧ wc.cell? ⟨w.heap.size, 2, none⟩ = some (.int .i64 (a 2)) ∧ wc.cell? ⟨w.heap.size, 3, none⟩ = some (.int .i64 (a 3))) := Lib.hid ⟨keep_of hb5 la x0, keep_of hb5 la x1, keep_of hb5 la x2, keep_of hb5 la x3⟩
    have XB : Hid (wc.cell? ⟨w.heap.size + 1, 0, none⟩ = some (.int .i64 (b 0)) ∧ wc.cell? ⟨w.heap.size + 1, 1, none⟩ = some (.int .i64 (b 1)) ∧ wc.cell? ⟨w.heap.size + 1, 2, none⟩ = some (.int .i64 (b 2)) ∧ wc.cell? ⟨w.heap.size + 1, 3, none⟩ = some (.int .i64 (b 3))) := Lib.hid ⟨keep_of hb5 lb y0, keep_of hb5 lb y1, keep_of hb5 lb y2, keep_of hb5 lb y3⟩
    have hz := hb5.size
    have HB5 := Lib.hid (below_then HB0.out hb5)
    have la' : w.heap.size < wc.heap.size := by omega
    have lb' : w.heap.size + 1 < wc.heap.size := by omega
    clear x0 x1 x2 x3 y0 y1 y2 y3 hb5 CS KA KB HB0 la lb hz
    go_upto_region 2 with fail
    obtain ⟨w5, hw5⟩ : ∃ w5 : World, w5 = wc := ⟨_, rfl⟩
    subst hw5
    go_cut [7, 8] (fun s7 s8 wx => ∃ g : Nat, s7 = .pointer (some ⟨g, 0, none⟩) ∧ s8 = .int .i64 c ∧ w.heap.size ≤ g ∧ g < wx.heap.size ∧ Below w5.heap.size w5 wx ∧ Hid (wx.cell? ⟨g, 0, none⟩ = some (.int .i64 (m 0)) ∧ wx.cell? ⟨g, 1, none⟩ = some (.int .i64 (m 1)) ∧ wx.cell? ⟨g, 2, none⟩ = some (.int .i64 (m 2)) ∧ wx.cell? ⟨g, 3, none⟩ = some (.int .i64 (m 3))))
    case first =>
      obtain ⟨x0, x1, x2, x3⟩ := XA.out
      obtain ⟨y0, y1, y2, y3⟩ := XB.out
      go_region_held3 (fun w' => w'.cell? ⟨w.heap.size, 0, none⟩ = some (.int .i64 (a 0)) ∧ w'.cell? ⟨w.heap.size, 1, none⟩ = some (.int .i64 (a 1)) ∧ w'.cell? ⟨w.heap.size, 2, none⟩ = some (.int .i64 (a 2)) ∧ w'.cell? ⟨w.heap.size, 3, none⟩ = some (.int .i64 (a 3)) ∧ w'.cell? ⟨w.heap.size + 1, 0, none⟩ = some (.int .i64 (b 0)) ∧ w'.cell? ⟨w.heap.size + 1, 1, none⟩ = some (.int .i64 (b 1)) ∧ w'.cell? ⟨w.heap.size + 1, 2, none⟩ = some (.int .i64 (b 2)) ∧ w'.cell? ⟨w.heap.size + 1, 3, none⟩ = some (.int .i64 (b 3)))
        (first | (refine ⟨?_, ?_, ?_, ?_, ?_, ?_, ?_, ?_⟩ <;> (refine keep_of (w2 := w5) ?_ (by omega) (by assumption); (repeat (first | exact Below.refl _ _ | exact B1 | refine Below.drew ?_ | refine Below.alloc ?_ (by first | omega | (simp <;> omega)) _ | refine Below.setCell ?_ (by first | omega | (simp <;> omega)) _)))))
        (first | (go_at_call 26; refine (to_exact _ _ _ _ _).mono ?_; rintro e wt ⟨rfl, rfl⟩) | (go_at_call 27; refine (CI.out _).mono ?_; rintro e w1 ⟨rfl, b1⟩; have B1 := below_then (w0 := w5) ?_ b1; rotate_left; (focus (repeat (first | exact Below.refl _ _ | refine Below.drew ?_ | refine Below.alloc ?_ (by first | omega | (simp <;> omega)) _ | refine Below.setCell ?_ (by first | omega | (simp <;> omega)) _))); have q1 := B1.size; have q2 := b1.size; (try simp at q2); (try (have c0 := keep4 (g := w5.heap.size) b1 ?_; rotate_left; focus (first | omega | (simp; done) | (simp; omega)))); (try (have c1 := keep4 (g := w5.heap.size + 3) b1 ?_; rotate_left; focus (first | omega | (simp; done) | (simp; omega)))); (try (have c2 := keep4 (g := w5.heap.size + 6) b1 ?_; rotate_left; focus (first | omega | (simp; done) | (simp; omega))))))
      all_goals
        go_wp2_with fail
        go_meet
        refine ⟨_, rfl, rfl, ?_, ?_, ?_, Lib.hid ?_⟩
        · first | omega | (simp <;> omega)
        · first | omega | (simp <;> omega)
        · (repeat (first | exact Below.refl _ _ | exact B1 | refine Below.drew ?_ | refine Below.alloc ?_ (by first | omega | (simp <;> omega)) _ | refine Below.setCell ?_ (by first | omega | (simp <;> omega)) _))
        · first | (go_simp; done) | exact set_cells (u := .int .i64 0) (by go_simp) (by go_simp) (by go_simp) (by go_simp)
    case rest =>
      obtain ⟨g7, rfl, rfl, hg7, hl7, hb7, hc7⟩ := hcut
      obtain ⟨p0, p1, p2, p3⟩ := hc5.out
      have q0 := keep_of hb7 hl5 p0
      have q1 := keep_of hb7 hl5 p1
      have q2 := keep_of hb7 hl5 p2
      have q3 := keep_of hb7 hl5 p3
      have HB7 := Lib.hid (below_then HB5.out hb7)
      obtain ⟨r0, r1, r2, r3⟩ := hc7.out
      clear p0 p1 p2 p3 hb7
      go_wp2_with fail
      refine (eq_same m _).mono ?_
      rintro e w9 ⟨rfl, b9⟩
      have HB9 := Lib.hid (below_then HB7.out b9)
      clear b9 q0 q1 q2 q3 r0 r1 r2 r3
      go_wp2_with fail
      go_ret
      exact ⟨rfl, HB9.out⟩
/-- The law. -/
theorem law (a0 a1 a2 a3 b0 b1 b2 b3 : Int) (w : World) (_ : (Lit.int .i64 a0).wf = true) (_ : (Lit.int .i64 a1).wf = true) (_ : (Lit.int .i64 a2).wf = true) (_ : (Lit.int .i64 a3).wf = true) (_ : (Lit.int .i64 b0).wf = true) (_ : (Lit.int .i64 b1).wf = true) (_ : (Lit.int .i64 b2).wf = true) (_ : (Lit.int .i64 b3).wf = true) :
    Calls Try.prog 6 #[.agg #[.int .i64 a0, .int .i64 a1, .int .i64 a2, .int .i64 a3], .agg #[.int .i64 b0, .int .i64 b1, .int .i64 b2, .int .i64 b3]] w fun e w' => e = .returned (.bool true) ∧ Below w.heap.size w w' := by
  cases ha : ftB a0 a1 a2 a3
  · exact core (nth a0 a1 a2 a3) (nth b0 b1 b2 b3) (fun _ => 0) 1 w (Lib.hid fun w => spec_larger_no _ _ (.inl ha) w) (Lib.hid fun w => impl_no _ _ (.inl ha) w)
  · cases hb : ftB b0 b1 b2 b3
    · exact core (nth a0 a1 a2 a3) (nth b0 b1 b2 b3) (fun _ => 0) 1 w (Lib.hid fun w => spec_larger_no _ _ (.inr hb) w) (Lib.hid fun w => impl_no _ _ (.inr hb) w)
    · exact core (nth a0 a1 a2 a3) (nth b0 b1 b2 b3) (fun j => max (nth a0 a1 a2 a3 j) (nth b0 b1 b2 b3 j)) 0 w (Lib.hid fun w => spec_larger_yes _ _ ha hb w) (Lib.hid fun w => impl_yes _ _ ha hb w)
end Go.Proofs.Ytcpclgoclconcab.Lg
