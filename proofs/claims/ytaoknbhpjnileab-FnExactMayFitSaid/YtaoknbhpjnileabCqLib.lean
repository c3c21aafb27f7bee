/- The gaps between a foot and a last: the program's. -/
import Derived.Test.YtaoknbhpjnileabCsLib
import Derived.Deep.RegionHeld3
namespace Go.Proofs.Ytaoknbhpjnileab.Co
open Go.RowKit Ft Is Fi La Fa Ge

theorem foot_exact (s : ByteArray) (f : Nat → Int) (w : World) : Calls Try.prog 118 #[laV s f] w fun e w' => e = .returned (.agg #[.int .i64 (f 0), .int .i64 (f 1), .int .i64 (f 2), .int .i64 (f 3)]) ∧ (w.alloc (laC s f 33)).alloc (ftC f 35) = w' := by
  go_enter Try.func118, Try.ntmps118
  go_wp2
  exact bodyPost_ret (v := .agg #[.int .i64 (f 0), .int .i64 (f 1), .int .i64 (f 2), .int .i64 (f 3)]) (by simp [results, Try.results118, go_sem]) rfl ⟨rfl, rfl⟩
theorem six {w : World} {g : Nat} {t : TypeId} {c0 c1 c2 c3 c4 c5 c6 c7 c8 c9 : Value} (h : w.heap[g]? = some (.cells #[c0, c1, c2, c3, c4, c5, c6, c7, c8, c9] t (0, 0))) :
    w.cell? ⟨g, 0, none⟩ = some c0 ∧ w.cell? ⟨g, 1, none⟩ = some c1 ∧ w.cell? ⟨g, 2, none⟩ = some c2 ∧ w.cell? ⟨g, 3, none⟩ = some c3 ∧ w.cell? ⟨g, 4, none⟩ = some c4 ∧ w.cell? ⟨g, 5, none⟩ = some c5 ∧ w.cell? ⟨g, 6, none⟩ = some c6 ∧ w.cell? ⟨g, 7, none⟩ = some c7 ∧ w.cell? ⟨g, 8, none⟩ = some c8 ∧ w.cell? ⟨g, 9, none⟩ = some c9 := by
  refine ⟨?_, ?_, ?_, ?_, ?_, ?_, ?_, ?_, ?_, ?_⟩ <;> simp [World.cell?, h]

/-- What the walk knows of a world behind k - 1 rounds. -/
structure Gk (w w2 W : World) (g6 g7 g8 : Nat) (x a : Nat → Int) (k : Nat) : Prop where
  b0 : Below w.heap.size w W
  b2 : Below w2.heap.size w2 W
  cx : ∀ j, j < 4 → W.cell? ⟨g6, j, none⟩ = some (.int .i64 (x j))
  ca : ∀ j, j < 4 → W.cell? ⟨g7, j, none⟩ = some (.int .i64 (a j))
  cg : ∀ j, j < 4 → W.cell? ⟨g8, j, none⟩ = some (.int .i64 (if j < k then gp x a j else 0))
  fz : ∀ i, W.frozen? ⟨g8, i, none⟩ = false
  l6 : g6 ≠ g8
  l7 : g7 ≠ g8
  l8 : w2.heap.size ≤ g8
  l9 : w.heap.size ≤ g8
theorem Gk.drew {w w2 W : World} {g6 g7 g8 k : Nat} {x a : Nat → Int} (h : Gk w w2 W g6 g7 g8 x a k) : Gk w w2 W.drew g6 g7 g8 x a k :=
  ⟨h.b0.drew, h.b2.drew, h.cx, h.ca, h.cg, h.fz, h.l6, h.l7, h.l8, h.l9⟩
theorem Gk.put {w w2 W : World} {g6 g7 g8 k : Nat} {x a : Nat → Int} {d : Int} (h : Gk w w2 W g6 g7 g8 x a k) (hk : k < 4) (hd : d = gp x a k) : Gk w w2 (W.setCell ⟨g8, k, none⟩ (.int .i64 d)) g6 g7 g8 x a (k + 1) := by
  subst hd
  refine ⟨h.b0.setCell (p := ⟨g8, k, none⟩) h.l9 _, h.b2.setCell (p := ⟨g8, k, none⟩) h.l8 _, fun j hj => ?_, fun j hj => ?_, fun j hj => ?_, fun i => (World.frozen?_setCell _ _ _ _).trans (h.fz i), h.l6, h.l7, h.l8, h.l9⟩
  · rw [World.cell?_setCell_other _ _ _ _ (show (⟨g8, k, none⟩ : Addr) ≠ ⟨g6, j, none⟩ from fun q => h.l6 (Addr.mk.inj q).1.symm)]
    exact h.cx j hj
  · rw [World.cell?_setCell_other _ _ _ _ (show (⟨g8, k, none⟩ : Addr) ≠ ⟨g7, j, none⟩ from fun q => h.l7 (Addr.mk.inj q).1.symm)]
    exact h.ca j hj
  · by_cases e : j = k
    · subst e
      rw [if_pos (by omega)]
      exact World.cell?_setCell_same _ _ _ (h.cg j hj)
    · rw [World.cell?_setCell_other _ _ _ _ (show (⟨g8, k, none⟩ : Addr) ≠ ⟨g8, j, none⟩ from fun q => e (Addr.mk.inj q).2.1.symm), h.cg j hj]
      by_cases hj2 : j < k
      · rw [if_pos hj2, if_pos (by omega)]
      · rw [if_neg hj2, if_neg (by omega)]
theorem gk_start {w w2 wc : World} {g6 g7 : Nat} {x a : Nat → Int} {t : TypeId} (h0 : Below w.heap.size w w2) (h2 : Below w2.heap.size w2 wc) (cx : ∀ j, j < 4 → wc.cell? ⟨g6, j, none⟩ = some (.int .i64 (x j))) (ca : ∀ j, j < 4 → wc.cell? ⟨g7, j, none⟩ = some (.int .i64 (a j))) :
    Gk w w2 (wc.alloc (.cells #[.int .i64 (x 0 - a 0), .int .i64 0, .int .i64 0, .int .i64 0] t)) g6 g7 wc.heap.size x a 1 := by
  have hb : Below wc.heap.size wc (wc.alloc (.cells #[.int .i64 (x 0 - a 0), .int .i64 0, .int .i64 0, .int .i64 0] t)) := (Below.refl _ _).alloc (Nat.le_refl _) _
  have K := heap_alloc_new wc (.cells #[.int .i64 (x 0 - a 0), .int .i64 0, .int .i64 0, .int .i64 0] t)
  have p6 := World.block_lt_of_cell? wc _ (cx 0 (by omega))
  have p7 := World.block_lt_of_cell? wc _ (ca 0 (by omega))
  obtain ⟨z0, z1, z2, z3⟩ := Ge.blk4 K
  have hsz := h2.size
  have hsz0 := h0.size
  refine ⟨below_then h0 (below_then h2 hb), below_then h2 hb, fun j hj => (hb.cell (p := ⟨g6, j, none⟩) p6).trans (cx j hj), fun j hj => (hb.cell (p := ⟨g7, j, none⟩) p7).trans (ca j hj), fun j hj => ?_, fun i => Ld.blk_free K i, by simp at p6; omega, by simp at p7; omega, hsz, by omega⟩
  obtain rfl | rfl | rfl | rfl : j = 0 ∨ j = 1 ∨ j = 2 ∨ j = 3 := by omega
  · exact z0
  · exact z1
  · exact z2
  · exact z3

set_option maxRecDepth 100000 in
set_option maxHeartbeats 16000000 in
theorem gaps_any (s : ByteArray) (x a : Nat → Int) (mn mx gi : Int) (A : Option Addr) (c : Nat) (hx : Mild x) (ha : Mild a) (w : World) :
    Calls Try.prog 107 #[ftgV s x mn mx gi A c, .agg #[.int .i64 (a 0), .int .i64 (a 1), .int .i64 (a 2), .int .i64 (a 3)]] w
      fun e w' => e = .returned (.agg #[.int .i64 (gp x a 0), .int .i64 (gp x a 1), .int .i64 (gp x a 2), .int .i64 (gp x a 3)]) ∧ Below w.heap.size w w' := by
  have MX := Lib.hid hx
  have MA := Lib.hid ha
  clear hx ha
  obtain ⟨kx, ka, kz⟩ := three w (.cells #[.string s, .int .i64 (x 0), .int .i64 (x 1), .int .i64 (x 2), .int .i64 (x 3), .int .i64 (x 4), .int .i64 mn, .int .i64 mx, .int .i64 gi, .slice A 4 c] 88) (.cells #[.int .i64 (a 0), .int .i64 (a 1), .int .i64 (a 2), .int .i64 (a 3)] 35) (.cells #[.int .i64 0, .int .i64 0, .int .i64 0, .int .i64 0] 132)
  have HW := Lib.hid (below3 w (.cells #[.string s, .int .i64 (x 0), .int .i64 (x 1), .int .i64 (x 2), .int .i64 (x 3), .int .i64 (x 4), .int .i64 mn, .int .i64 mx, .int .i64 gi, .slice A 4 c] 88) (.cells #[.int .i64 (a 0), .int .i64 (a 1), .int .i64 (a 2), .int .i64 (a 3)] 35) (.cells #[.int .i64 0, .int .i64 0, .int .i64 0, .int .i64 0] 132))
  have KX := Lib.hid kx
  have KA := Lib.hid ka
  have KZ := Lib.hid kz
  clear kx ka kz
  go_enter Try.func107, Try.ntmps107
  go_upto_region 1 with fail
  generalize ((w.alloc (.cells #[.string s, .int .i64 (x 0), .int .i64 (x 1), .int .i64 (x 2), .int .i64 (x 3), .int .i64 (x 4), .int .i64 mn, .int .i64 mx, .int .i64 gi, .slice A 4 c] 88)).alloc (.cells #[.int .i64 (a 0), .int .i64 (a 1), .int .i64 (a 2), .int .i64 (a 3)] 35)).alloc (.cells #[.int .i64 0, .int .i64 0, .int .i64 0, .int .i64 0] 132) = w2 at HW KX KA KZ ⊢
  have lx := Ge.lt_of_heap KX.out
  have la := Ge.lt_of_heap KA.out
  go_cut [5, 6] (fun s6 s7 wx => ∃ g6 g7 : Nat, s6 = .pointer (some ⟨g6, 0, none⟩) ∧ s7 = .pointer (some ⟨g7, 0, none⟩) ∧ Below w2.heap.size w2 wx ∧
    Hid (wx.cell? ⟨g6, 0, none⟩ = some (.int .i64 (x 0)) ∧ wx.cell? ⟨g6, 1, none⟩ = some (.int .i64 (x 1)) ∧ wx.cell? ⟨g6, 2, none⟩ = some (.int .i64 (x 2)) ∧ wx.cell? ⟨g6, 3, none⟩ = some (.int .i64 (x 3))) ∧
    Hid (wx.cell? ⟨g7, 0, none⟩ = some (.int .i64 (a 0)) ∧ wx.cell? ⟨g7, 1, none⟩ = some (.int .i64 (a 1)) ∧ wx.cell? ⟨g7, 2, none⟩ = some (.int .i64 (a 2)) ∧ wx.cell? ⟨g7, 3, none⟩ = some (.int .i64 (a 3))))
  case first =>
    obtain ⟨x0, x1, x2, x3, x4, x5, _, _, _, _⟩ := six KX.out
    obtain ⟨y0, y1, y2, y3⟩ := Ge.blk4 KA.out
    clear KX KA KZ HW MX MA
    go_region_held3 (fun w' => w'.cell? ⟨w.heap.size, 0, none⟩ = some (.string s) ∧ w'.cell? ⟨w.heap.size, 1, none⟩ = some (.int .i64 (x 0)) ∧ w'.cell? ⟨w.heap.size, 2, none⟩ = some (.int .i64 (x 1)) ∧ w'.cell? ⟨w.heap.size, 3, none⟩ = some (.int .i64 (x 2)) ∧ w'.cell? ⟨w.heap.size, 4, none⟩ = some (.int .i64 (x 3)) ∧ w'.cell? ⟨w.heap.size, 5, none⟩ = some (.int .i64 (x 4)) ∧
        w'.cell? ⟨w.heap.size + 1, 0, none⟩ = some (.int .i64 (a 0)) ∧ w'.cell? ⟨w.heap.size + 1, 1, none⟩ = some (.int .i64 (a 1)) ∧ w'.cell? ⟨w.heap.size + 1, 2, none⟩ = some (.int .i64 (a 2)) ∧ w'.cell? ⟨w.heap.size + 1, 3, none⟩ = some (.int .i64 (a 3)))
      (first | (refine ⟨?_, ?_, ?_, ?_, ?_, ?_, ?_, ?_, ?_, ?_⟩ <;> (refine keep_of (w2 := w2) ?_ (by omega) (by assumption); (repeat (first | exact Below.refl _ _ | refine Below.drew ?_ | refine Below.alloc ?_ (by simp <;> omega) _ | refine Below.setCell ?_ (by simp <;> omega) _)))))
      (first | (go_at_call 126; refine (measures_exact _ _ _ _ _).mono ?_; rintro e wn ⟨rfl, rfl⟩) | (go_at_call 118; refine (foot_exact _ _ _).mono ?_; rintro e wn ⟨rfl, rfl⟩))
    all_goals
      go_wp2_with fail
      go_meet
      refine ⟨_, _, rfl, rfl, ?_, Lib.hid ?_, Lib.hid ?_⟩
      · repeat (first | exact Below.refl _ _ | refine Below.drew ?_ | refine Below.alloc ?_ (by simp <;> omega) _ | refine Below.setCell ?_ (by simp <;> omega) _)
      · go_simp
      · go_simp
  case rest =>
    obtain ⟨g6, g7, rfl, rfl, hbel, hc6, hc7⟩ := hcut
    have H6 : ∀ j, j < 4 → wc.cell? ⟨g6, j, none⟩ = some (.int .i64 (x j)) := fun j hj => by
      obtain ⟨q0, q1, q2, q3⟩ := hc6.out
      obtain rfl | rfl | rfl | rfl : j = 0 ∨ j = 1 ∨ j = 2 ∨ j = 3 := by omega
      all_goals assumption
    have H7 : ∀ j, j < 4 → wc.cell? ⟨g7, j, none⟩ = some (.int .i64 (a j)) := fun j hj => by
      obtain ⟨q0, q1, q2, q3⟩ := hc7.out
      obtain rfl | rfl | rfl | rfl : j = 0 ∨ j = 1 ∨ j = 2 ∨ j = 3 := by omega
      all_goals assumption
    have GK := Lib.hid (gk_start (t := 132) HW.out hbel H6 H7)
    have x0 := H6 0 (by omega)
    have y0 := H7 0 (by omega)
    clear H6 H7 hc6 hc7 hbel KA KX
    obtain ⟨m1, m2⟩ := MX.out 0 (by omega)
    obtain ⟨m3, m4⟩ := MA.out 0 (by omega)
    have hwr : IntKind.i64.wrap (x 0 - a 0) = x 0 - a 0 := IntWalk.i64_in _ (by omega)
    go_wp2_with fail
    generalize wc.alloc (.cells #[.int .i64 (x 0 - a 0), .int .i64 0, .int .i64 0, .int .i64 0] 132) = w3 at GK ⊢
    generalize wc.heap.size = g8 at GK ⊢
    clear x0 y0
    go_loopw [8] (fun n wr => ∃ k : Nat, 1 ≤ k ∧ k ≤ 4 ∧ n = .int .i64 k ∧ Hid (Gk w w2 wr g6 g7 g8 x a k)) (fun n _ => 4 - (intOf n).toNat)
    case atStart => exact ⟨1, by omega, by omega, rfl, GK⟩
    case round =>
      obtain ⟨k, hk1, hk, rfl, GR⟩ := hrel
      by_cases hlt : k < 4
      · have z0 := GR.out.cx k hlt
        have z1 := GR.out.ca k hlt
        have z2 := GR.out.cg k hlt
        have z3 := GR.out.fz k
        rw [if_neg (by omega)] at z2
        have e0 : (0 : Int) ≤ (k : Int) := Int.natCast_nonneg _
        have e1 : (k : Int) < 4 := by omega
        have C := Lib.hid (fun w => dist_any (x k) (a k) (MX.out k hlt) (MA.out k hlt) w)
        have HG : Hid (gap (x k) (a k) = gp x a k) := Lib.hid (if_neg (by omega)).symm
        generalize gap (x k) (a k) = d at C HG
        generalize x k = u at z0 C
        generalize a k = v at z1 C
        go_wp2_with fail
        go_region_held3 (fun w' => w'.cell? ⟨g6, k, none⟩ = some (.int .i64 u) ∧ w'.cell? ⟨g7, k, none⟩ = some (.int .i64 v))
          (first | exact ⟨z0, z1⟩ | exact ⟨(World.cell?_setCell_other _ _ _ _ (fun q => GR.out.l6 (Addr.mk.inj q).1.symm)).trans z0, (World.cell?_setCell_other _ _ _ _ (fun q => GR.out.l7 (Addr.mk.inj q).1.symm)).trans z1⟩)
          ((go_at_call 127; refine (C.out _).mono ?_; rintro e wn ⟨rfl, rfl⟩))
        all_goals
          go_wp2_with fail
          go_roundw
          case rel => exact ⟨k + 1, by omega, by omega, by go_num, by first | exact Lib.hid (GR.out.put hlt HG.out).drew | exact Lib.hid (GR.out.drew.put hlt HG.out) | exact Lib.hid (GR.out.put hlt HG.out)⟩
          case measure => simp [intOf]; omega
      · obtain rfl : k = 4 := by omega
        have z0 : wr.cell? ⟨g8, 0, none⟩ = some (.int .i64 (gp x a 0)) := GR.out.cg 0 (by omega)
        have z1 : wr.cell? ⟨g8, 1, none⟩ = some (.int .i64 (gp x a 1)) := GR.out.cg 1 (by omega)
        have z2 : wr.cell? ⟨g8, 2, none⟩ = some (.int .i64 (gp x a 2)) := GR.out.cg 2 (by omega)
        have z3 : wr.cell? ⟨g8, 3, none⟩ = some (.int .i64 (gp x a 3)) := GR.out.cg 3 (by omega)
        have KZ6 := Lib.hid (Ge.blk_keep GR.out.b2 KZ.out)
        obtain ⟨y0, y1, y2, y3⟩ := Ge.blk4 KZ6.out
        have hfr := Ld.blk_free KZ6.out
        have HB6 := Lib.hid GR.out.b0
        go_wp2_with fail
        exact bodyPost_ret (v := .agg #[.int .i64 (gp x a 0), .int .i64 (gp x a 1), .int .i64 (gp x a 2), .int .i64 (gp x a 3)]) (by simp [results, Try.results107, go_sem, y0, y1, y2, y3]) rfl
          ⟨rfl, (((HB6.out.setCell (by simp; omega) _).setCell (by simp; omega) _).setCell (by simp; omega) _).setCell (by simp; omega) _⟩
end Go.Proofs.Ytaoknbhpjnileab.Co
