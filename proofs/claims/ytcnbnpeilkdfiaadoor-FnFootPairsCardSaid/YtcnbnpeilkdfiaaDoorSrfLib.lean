/- Draws of feet: spec.l02Draw, spec.A2Foot. -/
import Derived.Test.YtcnbnpeilkdfiaaDoorSrcLib
import Derived.Test.YtcnbnpeilkdfiaaDoorFtLib
namespace Go.Proofs.YtcnbnpeilkdfiaaDoor.Srf
set_option linter.unusedVariables false
open Go.RowKit Ft Is Ge Qb Bw Src

theorem but_new {g : Nat} {a w : World} (h : But g a w) {b : Nat} (hb : a.heap.size ≤ b) (o : Nat) (u : Value) : But g a (w.setCell ⟨b, o, none⟩ u) :=
  ⟨h.os, h.tape, h.output, by simpa using h.size, fun k hk hn => (Below.heap_setCell _ _ _ _ (by show k ≠ b; omega)).trans (h.block k hk hn)⟩
theorem but_alloc {g : Nat} {a w : World} (h : But g a w) (o : Obj) : But g a (w.alloc o) := h.trans (But.of_below (below_box w o))
theorem src_set {w : World} {g : Nat} {A : Option Addr} {n c m : Nat} {p q : Int} (h : Src w g A n c m p q) {b : Nat} (hb : b ≠ g) (hA : ∀ b' off, A = some ⟨b', off, none⟩ → 0 < n → b ≠ b') (o : Nat) (u : Value) : Src (w.setCell ⟨b, o, none⟩ u) g A n c m p q :=
  ⟨(Below.heap_setCell _ _ _ _ (by show g ≠ b; omega)).trans h.blk, h.at0, h.at1, h.sd0, h.sd1, fun hn => by
    obtain ⟨b', off, e, h1, h2, h3⟩ := h.bys hn
    have hne := hA b' off e hn
    exact ⟨b', off, e, by simpa using h1, h2, fun i hi => by
      obtain ⟨x, hx, h0⟩ := h3 i hi
      exact ⟨x, (World.cell?_setCell_other _ ⟨b, o, none⟩ ⟨b', off + i, none⟩ _ (by first | (intro e'; cases e'; exact hne rfl) | (simp; done) | (simp; exact fun e' => absurd e'.symm hne))).trans hx, h0⟩⟩⟩
abbrev ftV (a b c d : Int) : Value := .agg #[.int .i64 a, .int .i64 b, .int .i64 c, .int .i64 d]
/-- The feet that are drawn. -/
def FtIn (a b c d : Int) : Prop := (2200 ≤ a ∧ a ≤ 2845) ∧ (2100 ≤ b ∧ b ≤ 2595) ∧ (2200 ≤ c ∧ c ≤ 2695) ∧ (3000 ≤ d ∧ d ≤ 3495)
set_option maxRecDepth 100000 in
set_option maxHeartbeats 2000000 in
theorem draw_foot (g : Nat) (A : Option Addr) (n c m : Nat) (p q : Int) (hn : n ≤ 1048576) (hm : m ≤ 1000) (w : World) (h : Src w g A n c m p q) :
    Calls Tryd.prog 28 #[.pointer (some ⟨g, 0, none⟩)] w fun e w' => ∃ (a b k d p q : Int), e = .returned (ftV a b k d) ∧ FtIn a b k d ∧ Hid (Src w' g A n c (m + 8) p q) ∧ But g w w' := by
  have P := Lib.hid fun (w : World) m p q k hm h2 hk (h : Src w g A n c m p q) => pick2 g A n c m p q k hn hm h2 hk w h
  have hgl := lt_of_heap h.blk
  have HA : Hid (∀ b' off, A = some ⟨b', off, none⟩ → 0 < n → b' < w.heap.size) := Lib.hid fun b' off e h0 => by
    obtain ⟨b, o, e2, h1, _⟩ := h.bys h0
    rw [e] at e2
    cases e2
    exact h1
  have H0 := Lib.hid (h.but (below_box w (.cells #[.int .i64 0, .int .i64 0, .int .i64 0, .int .i64 0] 25)))
  have K0 := Lib.hid (blk_new w (.cells #[.int .i64 0, .int .i64 0, .int .i64 0, .int .i64 0] 25))
  have B0 := Lib.hid (But.of_below (g := g) (below_box w (.cells #[.int .i64 0, .int .i64 0, .int .i64 0, .int .i64 0] 25)))
  have C1 := Lib.hid (P.out _ m p q 130 (by omega) (by omega) (by omega) H0.out)
  clear h
  go_enter Tryd.func28, Tryd.ntmps28
  go_wp2_with fail
  refine C1.out.mono ?_
  rintro e w1 ⟨x1, p1, q1, rfl, l1, u1, S1, b1⟩
  have B1 := Lib.hid (B0.out.trans b1)
  have K1 := Lib.hid (blk_but K0.out b1 (by omega))
  have hs1 := B1.out.size
  have hr1 := lt_of_heap K1.out
  have S1b := Lib.hid (S1.out.but (below_box w1 (.cells #[.int .i64 (2200 + 5 * x1), .int .i64 0, .int .i64 0, .int .i64 0] 25)))
  have K1b := Lib.hid (blk_old (.cells #[.int .i64 (2200 + 5 * x1), .int .i64 0, .int .i64 0, .int .i64 0] 25) K1.out)
  have T1b := Lib.hid (blk_new w1 (.cells #[.int .i64 (2200 + 5 * x1), .int .i64 0, .int .i64 0, .int .i64 0] 25))
  have B1b := Lib.hid (but_alloc B1.out (.cells #[.int .i64 (2200 + 5 * x1), .int .i64 0, .int .i64 0, .int .i64 0] 25))
  have C2 := Lib.hid (P.out _ _ p1 q1 100 (by omega) (by omega) (by omega) S1b.out)
  clear b1 C1 H0 K0 B0 K1 B1 S1 S1b
  have t1 : IntKind.i64.wrap (2200 + 5 * x1) = 2200 + 5 * x1 := IntWalk.i64_in _ (by omega)
  go_wp2_with fail
  refine C2.out.mono ?_
  rintro e w2 ⟨x2, p2, q2, rfl, l2, u2, S2, b2⟩
  have B2 := Lib.hid (B1b.out.trans b2)
  have K2 := Lib.hid (blk_but K1b.out b2 (by omega))
  have T2 := Lib.hid (blk_but T1b.out b2 (by omega))
  have hl2 := lt_of_heap T2.out
  have hf2 := blk_free T2.out
  have y2 : w2.cell? ⟨w1.heap.size, 1, none⟩ = some (.int .i64 0) := cell_of_row _ _ _ _ _ _ T2.out
  have B2c := Lib.hid (but_new B2.out (b := w1.heap.size) (by omega) 1 (.int .i64 (2100 + 5 * x2)))
  have K2c : Hid ((w2.setCell ⟨w1.heap.size, 1, none⟩ (.int .i64 (2100 + 5 * x2))).heap[w.heap.size]? = some (.cells #[.int .i64 0, .int .i64 0, .int .i64 0, .int .i64 0] 25)) := Lib.hid ((Below.heap_setCell _ _ _ _ (by show w.heap.size ≠ w1.heap.size; omega)).trans K2.out)
  have T2c : Hid ((w2.setCell ⟨w1.heap.size, 1, none⟩ (.int .i64 (2100 + 5 * x2))).heap[w1.heap.size]? = some (.cells #[.int .i64 (2200 + 5 * x1), .int .i64 (2100 + 5 * x2), .int .i64 0, .int .i64 0] 25)) := Lib.hid (heap_set T2.out _ _)
  have S2c := Lib.hid (src_set S2.out (b := w1.heap.size) (by omega) (fun b' off e h0 => by have := HA.out b' off e h0; omega) 1 (.int .i64 (2100 + 5 * x2)))
  have t2 : IntKind.i64.wrap (2100 + 5 * x2) = 2100 + 5 * x2 := IntWalk.i64_in _ (by omega)
  have C3 := Lib.hid (P.out _ _ p2 q2 100 (by omega) (by omega) (by omega) S2c.out)
  clear b2 C2 B2 K2 T2 S2 B1b K1b T1b
  go_wp2_with fail
  refine C3.out.mono ?_
  rintro e w3 ⟨x3, p3, q3, rfl, l3, u3, S3, b3⟩
  have B3 := Lib.hid (B2c.out.trans b3)
  have K3 := Lib.hid (blk_but K2c.out b3 (by omega))
  have T3 := Lib.hid (blk_but T2c.out b3 (by omega))
  have hl3 := lt_of_heap T3.out
  have hf3 := blk_free T3.out
  have y3 : w3.cell? ⟨w1.heap.size, 2, none⟩ = some (.int .i64 0) := cell_of_row _ _ _ _ _ _ T3.out
  have B3c := Lib.hid (but_new B3.out (b := w1.heap.size) (by omega) 2 (.int .i64 (2200 + 5 * x3)))
  have K3c : Hid ((w3.setCell ⟨w1.heap.size, 2, none⟩ (.int .i64 (2200 + 5 * x3))).heap[w.heap.size]? = some (.cells #[.int .i64 0, .int .i64 0, .int .i64 0, .int .i64 0] 25)) := Lib.hid ((Below.heap_setCell _ _ _ _ (by show w.heap.size ≠ w1.heap.size; omega)).trans K3.out)
  have T3c : Hid ((w3.setCell ⟨w1.heap.size, 2, none⟩ (.int .i64 (2200 + 5 * x3))).heap[w1.heap.size]? = some (.cells #[.int .i64 (2200 + 5 * x1), .int .i64 (2100 + 5 * x2), .int .i64 (2200 + 5 * x3), .int .i64 0] 25)) := Lib.hid (heap_set T3.out _ _)
  have S3c := Lib.hid (src_set S3.out (b := w1.heap.size) (by omega) (fun b' off e h0 => by have := HA.out b' off e h0; omega) 2 (.int .i64 (2200 + 5 * x3)))
  have t3 : IntKind.i64.wrap (2200 + 5 * x3) = 2200 + 5 * x3 := IntWalk.i64_in _ (by omega)
  have C4 := Lib.hid (P.out _ _ p3 q3 100 (by omega) (by omega) (by omega) S3c.out)
  clear b3 C3 B3 K3 T3 S3 B2c K2c T2c S2c
  go_wp2_with fail
  refine C4.out.mono ?_
  rintro e w4 ⟨x4, p4, q4, rfl, l4, u4, S4, b4⟩
  have B4 := Lib.hid (B3c.out.trans b4)
  have K4 := Lib.hid (blk_but K3c.out b4 (by omega))
  have T4 := Lib.hid (blk_but T3c.out b4 (by omega))
  have hl4 := lt_of_heap T4.out
  have hf4 := blk_free T4.out
  have y4 : w4.cell? ⟨w1.heap.size, 3, none⟩ = some (.int .i64 0) := cell_of_row _ _ _ _ _ _ T4.out
  have B4c := Lib.hid (but_new B4.out (b := w1.heap.size) (by omega) 3 (.int .i64 (3000 + 5 * x4)))
  have K4c : Hid ((w4.setCell ⟨w1.heap.size, 3, none⟩ (.int .i64 (3000 + 5 * x4))).heap[w.heap.size]? = some (.cells #[.int .i64 0, .int .i64 0, .int .i64 0, .int .i64 0] 25)) := Lib.hid ((Below.heap_setCell _ _ _ _ (by show w.heap.size ≠ w1.heap.size; omega)).trans K4.out)
  have T4c : Hid ((w4.setCell ⟨w1.heap.size, 3, none⟩ (.int .i64 (3000 + 5 * x4))).heap[w1.heap.size]? = some (.cells #[.int .i64 (2200 + 5 * x1), .int .i64 (2100 + 5 * x2), .int .i64 (2200 + 5 * x3), .int .i64 (3000 + 5 * x4)] 25)) := Lib.hid (heap_set T4.out _ _)
  have S4c := Lib.hid (src_set S4.out (b := w1.heap.size) (by omega) (fun b' off e h0 => by have := HA.out b' off e h0; omega) 3 (.int .i64 (3000 + 5 * x4)))
  have t4 : IntKind.i64.wrap (3000 + 5 * x4) = 3000 + 5 * x4 := IntWalk.i64_in _ (by omega)
  clear b4 C4 B4 K4 T4 S4 B3c K3c T3c S3c
  generalize hw9 : World.setCell w4 _ _ = w9 at B4c K4c T4c S4c
  have hl9 := lt_of_heap T4c.out
  have hr9 := lt_of_heap K4c.out
  obtain ⟨a0, a1, a2, a3⟩ : w9.cell? ⟨w1.heap.size, 0, none⟩ = some (.int .i64 (2200 + 5 * x1)) ∧ w9.cell? ⟨w1.heap.size, 1, none⟩ = some (.int .i64 (2100 + 5 * x2)) ∧ w9.cell? ⟨w1.heap.size, 2, none⟩ = some (.int .i64 (2200 + 5 * x3)) ∧ w9.cell? ⟨w1.heap.size, 3, none⟩ = some (.int .i64 (3000 + 5 * x4)) := ⟨cell_of_row _ _ _ _ _ _ T4c.out, cell_of_row _ _ _ _ _ _ T4c.out, cell_of_row _ _ _ _ _ _ T4c.out, cell_of_row _ _ _ _ _ _ T4c.out⟩
  obtain ⟨z0, z1, z2, z3⟩ : w9.cell? ⟨w.heap.size, 0, none⟩ = some (.int .i64 0) ∧ w9.cell? ⟨w.heap.size, 1, none⟩ = some (.int .i64 0) ∧ w9.cell? ⟨w.heap.size, 2, none⟩ = some (.int .i64 0) ∧ w9.cell? ⟨w.heap.size, 3, none⟩ = some (.int .i64 0) := ⟨cell_of_row _ _ _ _ _ _ K4c.out, cell_of_row _ _ _ _ _ _ K4c.out, cell_of_row _ _ _ _ _ _ K4c.out, cell_of_row _ _ _ _ _ _ K4c.out⟩
  have hfr := blk_free K4c.out
  have SF := Lib.hid fun (b' : Nat) off e h0 => HA.out b' off e h0
  go_wp2_with (rw [hw9])
  exact bodyPost_ret (v := ftV (2200 + 5 * x1) (2100 + 5 * x2) (2200 + 5 * x3) (3000 + 5 * x4)) (by simp [results, Tryd.results28, go_sem, z0, z1, z2, z3]) rfl
    ⟨_, _, _, _, p4, q4, rfl, ⟨by omega, by omega, by omega, by omega⟩, Lib.hid (src_set (src_set (src_set (src_set S4c.out (b := w.heap.size) (by omega) (fun b' off e h0 => by have := SF.out b' off e h0; omega) 0 _) (b := w.heap.size) (by omega) (fun b' off e h0 => by have := SF.out b' off e h0; omega) 1 _) (b := w.heap.size) (by omega) (fun b' off e h0 => by have := SF.out b' off e h0; omega) 2 _) (b := w.heap.size) (by omega) (fun b' off e h0 => by have := SF.out b' off e h0; omega) 3 _), but_new (but_new (but_new (but_new B4c.out (b := w.heap.size) (by omega) 0 _) (b := w.heap.size) (by omega) 1 _) (b := w.heap.size) (by omega) 2 _) (b := w.heap.size) (by omega) 3 _⟩
/-- Bytes of an argument. -/
def Byt (w : World) (A : Option Addr) (n : Nat) : Prop := 0 < n → ∃ b off, A = some ⟨b, off, none⟩ ∧ b < w.heap.size ∧ ∀ i, i < n → ∃ x : Int, w.cell? ⟨b, off + i, none⟩ = some (.int .u8 x) ∧ 0 ≤ x ∧ x ≤ 255
theorem Byt.below {w w' : World} {A : Option Addr} {n : Nat} (h : Byt w A n) (hb : Below w.heap.size w w') : Byt w' A n := fun hn => by
  obtain ⟨b, off, e, h1, h3⟩ := h hn
  exact ⟨b, off, e, Nat.lt_of_lt_of_le h1 hb.size, fun i hi => by
    obtain ⟨x, hx, h0⟩ := h3 i hi
    exact ⟨x, (hb.cell (p := ⟨b, off + i, none⟩) h1).trans hx, h0⟩⟩
theorem src_new {w : World} {A : Option Addr} {n : Nat} (c : Nat) (h : Byt w A n) : Src (w.alloc (.cells #[.slice A n c, .int .i64 0, .int .u64 0] 83)) w.heap.size A n c 0 0 0 :=
  ⟨blk_new _ _, by omega, by simp, by omega, by omega, fun hn => by
    obtain ⟨b, off, e, h1, h3⟩ := h hn
    refine ⟨b, off, e, by simp; omega, by omega, fun i hi => ?_⟩
    obtain ⟨x, hx, h0⟩ := h3 i hi
    exact ⟨x, (World.cell?_alloc_lt w _ _ (show (⟨b, off + i, none⟩ : Addr).block < w.heap.size from h1)).trans hx, h0⟩⟩
theorem from_any (A : Option Addr) (n c : Nat) (w : World) (h : Byt w A n) : Calls Tryd.prog 29 #[.slice A n c] w fun e w' => e = .returned (.pointer (some ⟨w.heap.size, 0, none⟩)) ∧ Hid (Src w' w.heap.size A n c 0 0 0) ∧ Below w.heap.size w w' := by
  have HS := Lib.hid (src_new c h)
  have HB := Lib.hid (below_box w (.cells #[.slice A n c, .int .i64 0, .int .u64 0] 83))
  clear h
  go_enter Tryd.func29, Tryd.ntmps29
  go_wp2_with fail
  go_ret
  exact ⟨rfl, HS, HB.out⟩
set_option maxHeartbeats 1000000 in
set_option maxRecDepth 100000 in
theorem a2_foot (A : Option Addr) (n c : Nat) (hn : n ≤ 1048576) (w : World) (h : Byt w A n) : Calls Tryd.prog 6 #[.slice A n c] w fun e w' => ∃ (a b k d : Int), e = .returned (ftV a b k d) ∧ FtIn a b k d ∧ Below w.heap.size w w' := by
  have HB := Lib.hid (below_box w (.cells #[.int .i64 0, .int .i64 0, .int .i64 0, .int .i64 0] 25))
  have K0 := Lib.hid (blk_new w (.cells #[.int .i64 0, .int .i64 0, .int .i64 0, .int .i64 0] 25))
  have C := Lib.hid (from_any A n c _ (h.below HB.out))
  rw [World.size_alloc] at C
  have D := Lib.hid fun (w' : World) g p q (hS : Src w' g A n c 0 p q) => draw_foot g A n c 0 p q hn (by omega) w' hS
  clear h
  go_enter Tryd.func6, Tryd.ntmps6
  go_wp2_with fail
  refine C.out.mono ?_
  rintro e w1 ⟨rfl, HS, b1⟩
  have B1 := Lib.hid (HB.out.trans (b1.mono (by omega)))
  have K1 := Lib.hid ((b1.block w.heap.size (by omega)).trans K0.out)
  have hs := b1.size
  have D1 := Lib.hid (D.out w1 _ _ _ HS.out)
  clear C D b1 HB K0 HS
  go_wp2_with fail
  refine D1.out.mono ?_
  rintro e w2 ⟨a, b, k, d, p, q, rfl, hf, _, b2⟩
  have B2 := Lib.hid (B1.out.trans (b2.below (by omega) B1.out.size))
  have K2 := Lib.hid (blk_but K1.out b2 (by omega))
  have hl2 := lt_of_heap K2.out
  obtain ⟨z0, z1, z2, z3⟩ : w2.cell? ⟨w.heap.size, 0, none⟩ = some (.int .i64 0) ∧ w2.cell? ⟨w.heap.size, 1, none⟩ = some (.int .i64 0) ∧ w2.cell? ⟨w.heap.size, 2, none⟩ = some (.int .i64 0) ∧ w2.cell? ⟨w.heap.size, 3, none⟩ = some (.int .i64 0) := ⟨cell_of_row _ _ _ _ _ _ K2.out, cell_of_row _ _ _ _ _ _ K2.out, cell_of_row _ _ _ _ _ _ K2.out, cell_of_row _ _ _ _ _ _ K2.out⟩
  have hfr := blk_free K2.out
  clear D1 b2 K1 B1
  go_wp2_with fail
  exact bodyPost_ret (v := ftV a b k d) (by simp [results, Tryd.results6, go_sem, z0, z1, z2, z3]) rfl
    ⟨a, b, k, d, rfl, hf, (((B2.out.setCell (Nat.le_refl _) _).setCell (Nat.le_refl _) _).setCell (Nat.le_refl _) _).setCell (Nat.le_refl _) _⟩
end Go.Proofs.YtcnbnpeilkdfiaaDoor.Srf
