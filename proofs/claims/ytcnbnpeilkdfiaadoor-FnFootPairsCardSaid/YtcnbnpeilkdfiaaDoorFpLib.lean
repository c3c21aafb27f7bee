/- FnFootPairs: what the law wants of its functions; the walk of the law. -/
import Derived.Test.YtcnbnpeilkdfiaaDoorSrfLib
import Derived.Test.YtcnbnpeilkdfiaaDoorLgImpl
import Derived.Test.YtcnbnpeilkdfiaaDoorDfImpl
import Derived.Test.YtcnbnpeilkdfiaaDoorSpImpl
import Derived.Test.YtcnbnpeilkdfiaaDoorFwLib
import Derived.Test.YtcnbnpeilkdfiaaDoorRjLib
import Derived.Laws.StructEq
import Derived.ChangeSlices
import Derived.WalkKit
import Derived.OpenShut
namespace Go.Proofs.YtcnbnpeilkdfiaaDoor.Fp
set_option linter.unusedVariables false
open Go.Lib (itoa)
open Go.RowKit Ft Is Ge Qb Bw Src Srf Rn Rs Ri St Rf

theorem foot_in {a b k d : Int} (h : FtIn a b k d) : ftB a b k d = true := by
  obtain ⟨h0, h1, h2, h3⟩ := h
  unfold ftB inB
  simp
  omega
theorem a2_fun (A : Option Addr) (n c : Nat) (hn : n ≤ 1048576) (w : World) (h : Byt w A n) : Calls Tryd.prog 6 #[.slice A n c] w fun e w' => ∃ f : Nat → Int, e = .returned (ftV (f 0) (f 1) (f 2) (f 3)) ∧ FtIn (f 0) (f 1) (f 2) (f 3) ∧ Below w.heap.size w w' :=
  (a2_foot A n c hn w h).mono fun e w' ⟨a, b, k, d, h1, h2, h3⟩ => ⟨fun j => match j with | 0 => a | 1 => b | 2 => k | _ => d, h1, h2, h3⟩
/-- A foot is read back from its text. -/
theorem back {a : Nat → Int} (h : FtIn (a 0) (a 1) (a 2) (a 3)) : rfB (Fx.ftT (a 0) (a 1) (a 2) (a 3)).data.toList = true ∧ (∀ j, j < 4 → rfN (Fx.ftT (a 0) (a 1) (a 2) (a 3)).data.toList j = a j) ∧ (Fx.ftT (a 0) (a 1) (a 2) (a 3)).size ≤ 1048576 := by
  have hb := foot_in h
  obtain ⟨h0, h1, h2, h3⟩ := h
  have hd : ∀ j, j < 4 → rdB (itoa (a j)) = true ∧ rdV (itoa (a j)) = a j := fun j hj => by
    have : 0 ≤ a j ∧ a j ≤ 5000 := by
      obtain rfl | rfl | rfl | rfl : j = 0 ∨ j = 1 ∨ j = 2 ∨ j = 3 := by omega
      all_goals omega
    exact is_rd (by omega) (by omega)
  have hf : ∀ j, j < 4 → ∀ x ∈ itoa (a j), x ≠ 47 := fun j hj => Rz.rd_free (hd j hj).1 47 (.inr (by decide))
  have ht : Fx.ftT (a 0) (a 1) (a 2) (a 3) = ⟨(Fx.ftL (a 0) (a 1) (a 2) (a 3)).toArray⟩ := by unfold Fx.ftT; rw [hb]; rfl
  rw [ht]
  have hs : spl 47 (Fx.ftL (a 0) (a 1) (a 2) (a 3)) = [itoa (a 0), itoa (a 1), itoa (a 2), itoa (a 3)] := by
    rw [show Fx.ftL (a 0) (a 1) (a 2) (a 3) = itoa (a 0) ++ 47 :: (itoa (a 1) ++ 47 :: (itoa (a 2) ++ 47 :: itoa (a 3))) by simp [Fx.ftL], spl_hit 47 _ _ (hf 0 (by omega)), spl_hit 47 _ _ (hf 1 (by omega)), spl_hit 47 _ _ (hf 2 (by omega)), spl_none 47 _ (hf 3 (by omega))]
  have hP : ∀ j, j < 4 → rfP (Fx.ftL (a 0) (a 1) (a 2) (a 3)) j = itoa (a j) := fun j hj => by
    unfold rfP
    rw [hs]
    obtain rfl | rfl | rfl | rfl : j = 0 ∨ j = 1 ∨ j = 2 ∨ j = 3 := by omega
    all_goals rfl
  have hF : ∀ j, j < 4 → rfF (Fx.ftL (a 0) (a 1) (a 2) (a 3)) j = a j := fun j hj => by
    unfold rfF rdN
    rw [hP j hj, (hd j hj).1]
    exact (hd j hj).2
  have hV : rfV (Fx.ftL (a 0) (a 1) (a 2) (a 3)) = true := by
    unfold rfV
    rw [hF 0 (by omega), hF 1 (by omega), hF 2 (by omega), hF 3 (by omega)]
    exact hb
  have hB : rfB (Fx.ftL (a 0) (a 1) (a 2) (a 3)) = true := by
    unfold rfB
    rw [hs, hP 0 (by omega), hP 1 (by omega), hP 2 (by omega), hP 3 (by omega), (hd 0 (by omega)).1, (hd 1 (by omega)).1, (hd 2 (by omega)).1, (hd 3 (by omega)).1, hV]
    rfl
  refine ⟨hB, fun j hj => ?_, ?_⟩
  · show rfN (Fx.ftL (a 0) (a 1) (a 2) (a 3)) j = a j
    unfold rfN
    rw [hB]
    exact hF j hj
  · show (Fx.ftL (a 0) (a 1) (a 2) (a 3)).length ≤ _
    have l0 := Fx.len_le (a 0) (by omega) (by omega)
    have l1 := Fx.len_le (a 1) (by omega) (by omega)
    have l2 := Fx.len_le (a 2) (by omega) (by omega)
    have l3 := Fx.len_le (a 3) (by omega) (by omega)
    simp [Fx.ftL]
    omega
def ab (x : Int) : Int := if x < 0 then -x else x
theorem size_any (x : Int) (h : -10000 ≤ x ∧ x ≤ 10000) (w : World) : Calls Tryd.prog 12 #[.int .i64 x] w fun e w' => e = .returned (.int .i64 (ab x)) ∧ w = w' := by
  unfold ab
  by_cases q : x < 0
  · rw [if_pos q]
    go_enter Tryd.func12, Tryd.ntmps12
    go_wp2
    go_ret
    exact ⟨rfl, rfl⟩
  · rw [if_neg q]
    go_enter Tryd.func12, Tryd.ntmps12
    go_wp2
    go_ret
    exact ⟨rfl, rfl⟩
theorem size_of {x r : Int} {w : World} (h : Calls Tryd.prog 12 #[.int .i64 x] w fun e w' => e = .returned (.int .i64 r) ∧ w = w') :
    Calls Tryd.prog 12 #[.int .i64 x] w fun e w' => e = .returned (.int .i64 r) ∧ w' = w := h.mono fun _ _ h => ⟨h.1, h.2.symm⟩
theorem long_any (A : Option Addr) (n c : Nat) (B : Option Addr) (m d : Nat) (w : World) : Calls Tryd.prog 5 #[.slice A n c, .slice B m d] w fun e w' => e = .returned (.bool (decide (3000 < n) || decide (3000 < m))) ∧ w = w' := by
  by_cases h1 : 3000 < n
  · have h1' : (3000 : Int) < (n : Int) := by omega
    have e : (decide (3000 < n) || decide (3000 < m)) = true := by simp [h1]
    rw [e]
    go_enter Tryd.func5, Tryd.ntmps5
    go_wp2
    go_ret
    exact ⟨rfl, rfl⟩
  · have h1' : ¬ (3000 : Int) < (n : Int) := by omega
    by_cases h2 : 3000 < m
    · have h2' : (3000 : Int) < (m : Int) := by omega
      have e : (decide (3000 < n) || decide (3000 < m)) = true := by simp [h2]
      rw [e]
      go_enter Tryd.func5, Tryd.ntmps5
      go_wp2
      go_ret
      exact ⟨rfl, rfl⟩
    · have h2' : ¬ (3000 : Int) < (m : Int) := by omega
      have e : (decide (3000 < n) || decide (3000 < m)) = false := by simp [h1, h2]
      rw [e]
      go_enter Tryd.func5, Tryd.ntmps5
      go_wp2
      go_ret
      exact ⟨rfl, rfl⟩
/-- Two feet in a row. -/
theorem two_ints (a b : Nat → Int) (ha : FtIn (a 0) (a 1) (a 2) (a 3)) (hb : FtIn (b 0) (b 1) (b 2) (b 3)) (w : World) :
    Fs.Ints (w.alloc (.cells #[.int .i64 (a 0), .int .i64 (a 1), .int .i64 (a 2), .int .i64 (a 3), .int .i64 (b 0), .int .i64 (b 1), .int .i64 (b 2), .int .i64 (b 3)] 25)) (w.alloc (.cells #[.int .i64 (a 0), .int .i64 (a 1), .int .i64 (a 2), .int .i64 (a 3), .int .i64 (b 0), .int .i64 (b 1), .int .i64 (b 2), .int .i64 (b 3)] 25)).heap.size 4 (some ⟨w.heap.size, 0, none⟩) 2 (fun i j => if i = 0 then a j else b j) := by
  obtain ⟨a0, a1, a2, a3⟩ := ha
  obtain ⟨b0, b1, b2, b3⟩ := hb
  refine ⟨by unfold maxLen; omega, fun i hi j hj => ?_, fun _ => ⟨w.heap.size, 0, rfl, by simp, fun i hi j hj => ?_⟩⟩
  · have : 0 ≤ (if i = 0 then a j else b j) ∧ (if i = 0 then a j else b j) ≤ 5000 := by
      obtain rfl | rfl | rfl | rfl : j = 0 ∨ j = 1 ∨ j = 2 ∨ j = 3 := by omega
      all_goals (split <;> omega)
    show (Lit.int .i64 (if i = 0 then a j else b j)).wf = true
    exact WalkArith.wf_i64 (by omega)
  · rw [Nat.zero_add, cell_of_row _ _ _ _ _ (0, 0) (heap_alloc_new _ _)]
    obtain rfl | rfl : i = 0 ∨ i = 1 := by omega
    all_goals (obtain rfl | rfl | rfl | rfl : j = 0 ∨ j = 1 ∨ j = 2 ∨ j = 3 := by omega)
    all_goals rfl
theorem two_okay (a b : Nat → Int) (ha : FtIn (a 0) (a 1) (a 2) (a 3)) (hb : FtIn (b 0) (b 1) (b 2) (b 3)) : Fs.Okay 2 (fun i j => if i = 0 then a j else b j) :=
  ⟨by omega, fun i hi => by
    obtain rfl | rfl : i = 0 ∨ i = 1 := by omega
    · exact foot_in ha
    · exact foot_in hb⟩
theorem two_spr (a b : Nat → Int) (j : Nat) : Sp.spr 2 (fun i j => if i = 0 then a j else b j) j = ab (b j - a j) := by
  unfold Sp.spr ab
  show max (a j) (b j) - min (a j) (b j) = _
  split <;> omega
/-- Four numbers at the start of a block. -/
def R4 (w : World) (g : Nat) (f : Nat → Int) : Prop := g < w.heap.size ∧ (w.cell? ⟨g, 0, none⟩ = some (.int .i64 (f 0)) ∧ w.cell? ⟨g, 1, none⟩ = some (.int .i64 (f 1)) ∧ w.cell? ⟨g, 2, none⟩ = some (.int .i64 (f 2)) ∧ w.cell? ⟨g, 3, none⟩ = some (.int .i64 (f 3)))
theorem R4.below {w w' : World} {g : Nat} {f : Nat → Int} (h : R4 w g f) (hb : Below w.heap.size w w') : R4 w' g f :=
  ⟨Nat.lt_of_lt_of_le h.1 hb.size, (hb.cell (p := ⟨g, 0, none⟩) h.1).trans h.2.1, (hb.cell (p := ⟨g, 1, none⟩) h.1).trans h.2.2.1, (hb.cell (p := ⟨g, 2, none⟩) h.1).trans h.2.2.2.1, (hb.cell (p := ⟨g, 3, none⟩) h.1).trans h.2.2.2.2⟩
theorem r4_new (w : World) (f : Nat → Int) (t : TypeId) : R4 (w.alloc (.cells #[.int .i64 (f 0), .int .i64 (f 1), .int .i64 (f 2), .int .i64 (f 3)] t)) w.heap.size f :=
  ⟨by simp, cell_of_row _ _ _ _ _ (0, 0) (heap_alloc_new _ _), cell_of_row _ _ _ _ _ (0, 0) (heap_alloc_new _ _), cell_of_row _ _ _ _ _ (0, 0) (heap_alloc_new _ _), cell_of_row _ _ _ _ _ (0, 0) (heap_alloc_new _ _)⟩
theorem r4_own {w : World} {B g : Nat} {f : Nat → Int} (h : Own w B (some ⟨g, 0, none⟩) 4 f) : R4 w g f := by
  obtain ⟨b, off, e, h1, h2⟩ := h.nums (by omega)
  cases e
  have k := fun j (hj : j < 4) => h2 j hj
  simp only [Nat.zero_add] at k
  exact ⟨h1, k 0 (by omega), k 1 (by omega), k 2 (by omega), k 3 (by omega)⟩
theorem R4.at {w : World} {g : Nat} {f : Nat → Int} (h : R4 w g f) {j : Nat} (hj : j < 4) : w.cell? ⟨g, j, none⟩ = some (.int .i64 (f j)) := by
  obtain rfl | rfl | rfl | rfl : j = 0 ∨ j = 1 ∨ j = 2 ∨ j = 3 := by omega
  · exact h.2.1
  · exact h.2.2.1
  · exact h.2.2.2.1
  · exact h.2.2.2.2
open Go.ChangeShapes Go.WideShapes in
/-- An argument of bytes. -/
theorem byt_of_trod {H : Type} {enc : TypeId × Value → H} {P : Program} {w : World} {t e : TypeId} {fuel : Nat} {cs : List Value} {x : DataW H × List MemPlace}
    (ht : P.underlying t = some (.slice e)) (he : P.underlying e = some (.int .u8)) (hC : P.cellsOf e = 1) (h : DataW.trod enc P w 0 (fun _ => true) true fuel t cs = some x) :
    ∃ A n c, cs = [.slice A n c] ∧ n ≤ maxLen ∧ Byt w A n := by
  rcases open_ints ht he hC h with ⟨rfl, _⟩ | ⟨a, n, c, zs, rfl, _, hl, hm, hz, _, hcell, hwf⟩
  · exact ⟨none, 0, 0, rfl, by simp [maxLen], fun h => by omega⟩
  · refine ⟨some a, n, c, rfl, by omega, fun hn => ?_⟩
    have hlen : n ≤ zs.length := by rw [hz]; split <;> omega
    have h0 := hcell 0 (by omega)
    have hsp := World.cell?_spot h0
    have hlt := World.block_lt_of_cell? w _ h0
    obtain ⟨b, off, spot⟩ := a
    have hspot : spot = none := by simpa [Addr.add] using hsp
    subst hspot
    refine ⟨b, off, rfl, by simpa [Addr.add] using hlt, fun i hi => ⟨zs.getD i 0, ?_, ?_⟩⟩
    · have := hcell i (by omega)
      rw [Ge.add_eq] at this
      exact this
    · have e : zs.getD i 0 = zs[i]'(by omega) := by simp [List.getD, show i < zs.length by omega]
      rw [e]
      have := hwf _ (List.getElem_mem (h := (by omega : i < zs.length)))
      simpa [Lit.wf, IntKind.min, IntKind.max, IntKind.signed, IntKind.bits] using this
/-- What the law holds at its loop. -/
def All (w wr : World) (a b : Nat → Int) (ga gb gx gd ge gs : Nat) : Prop :=
  Below w.heap.size w wr ∧ R4 wr ga a ∧ R4 wr gb b ∧ R4 wr gx (fun j => max (a j) (b j)) ∧ R4 wr gd (fun j => b j - a j) ∧ R4 wr ge (fun j => a j - b j) ∧ R4 wr gs (fun j => ab (b j - a j))
theorem all_drewN {w wr : World} {a b : Nat → Int} {ga gb gx gd ge gs : Nat} (h : All w wr a b ga gb gx gd ge gs) (q : Nat) : All w (wr.drewN q) a b ga gb gx gd ge gs :=
  ⟨below_drewN h.1 q, h.2.1, h.2.2.1, h.2.2.2.1, h.2.2.2.2.1, h.2.2.2.2.2.1, h.2.2.2.2.2.2⟩
set_option maxRecDepth 100000 in
set_option maxHeartbeats 8000000 in
theorem law (A : Option Addr) (n c : Nat) (B : Option Addr) (m d : Nat) (w : World) (hV : Vars w) (hM : Rj.MaxAt w) (hA : Byt w A n) (hB : Byt w B m) :
    Calls Tryd.prog 3 #[.slice A n c, .slice B m d] w fun e w' => e = .returned (.bool true) ∧ Below w.heap.size w w' := by
  have CL := Lib.hid (long_any A n c B m d w)
  by_cases hl : 3000 < n ∨ 3000 < m
  · have e : (decide (3000 < n) || decide (3000 < m)) = true := by rcases hl with h | h <;> simp [h]
    rw [e] at CL
    clear hA hB hV hM
    go_enter Tryd.func3, Tryd.ntmps3
    go_wp2_with fail
    refine CL.out.mono ?_
    rintro e w1 ⟨rfl, rfl⟩
    go_wp2_with fail
    go_ret
    exact ⟨rfl, Below.refl _ _⟩
  have e : (decide (3000 < n) || decide (3000 < m)) = false := by simp; omega
  rw [e] at CL
  have HV := Lib.hid hV
  have HM := Lib.hid hM
  have HB := Lib.hid hB
  have C1 := Lib.hid (a2_fun A n c (by omega) w hA)
  have C2 := Lib.hid (fun w' (h : Byt w' B m) => a2_fun B m d (by omega) w' h)
  clear hA hB hV hM hl e
  go_enter Tryd.func3, Tryd.ntmps3
  go_wp2_with fail
  refine CL.out.mono ?_
  rintro e w1 ⟨rfl, rfl⟩
  go_wp2_with fail
  refine C1.out.mono ?_
  rintro e w1 ⟨a, rfl, ha, b1⟩
  have B1 := Lib.hid (below_then b1 (below_box w1 (.cells #[.int .i64 (a 0), .int .i64 (a 1), .int .i64 (a 2), .int .i64 (a 3)] 25)))
  have Ka := Lib.hid (r4_new w1 a 25)
  have C3 := Lib.hid (C2.out _ (HB.out.below B1.out))
  clear b1 CL C1 C2 HB
  go_wp2_with fail
  refine C3.out.mono ?_
  rintro e w2 ⟨b, rfl, hb, b2⟩
  have X2 := Lib.hid (below_then b2 (below_box w2 (.cells #[.int .i64 (b 0), .int .i64 (b 1), .int .i64 (b 2), .int .i64 (b 3)] 25)))
  have Ka := Lib.hid (Ka.out.below X2.out)
  have Kb := Lib.hid (r4_new w2 b 25)
  have B2 := Lib.hid (below_then B1.out X2.out)
  have L1 := Lib.hid (fun w => Lg.impl_yes a b (foot_in ha) (foot_in hb) w)
  have L2 := Lib.hid (fun w => Lg.impl_yes b a (foot_in hb) (foot_in ha) w)
  rw [Int.max_comm (b 0) (a 0), Int.max_comm (b 1) (a 1), Int.max_comm (b 2) (a 2), Int.max_comm (b 3) (a 3)] at L2
  have D1 := Lib.hid (fun w => Df.impl_diff_yes a b (foot_in ha) (foot_in hb) w)
  have D2 := Lib.hid (fun w => Df.impl_diff_yes b a (foot_in hb) (foot_in ha) w)
  have SP := Lib.hid (fun w => Sp.impl_yes (some ⟨w.heap.size, 0, none⟩) 2 2 (fun i j => if i = 0 then a j else b j) (by omega) (by omega) (two_okay a b ha hb) _ (two_ints a b ha hb w))
  rw [two_spr, two_spr, two_spr, two_spr] at SP
  have TX := Lib.hid (fun w ht => Fw.impl_text (a 0) (a 1) (a 2) (a 3) w ht)
  have BK := Lib.hid (back ha)
  have RD := Lib.hid (fun w hV hM => Rj.impl_foot (Fx.ftT (a 0) (a 1) (a 2) (a 3)) BK.out.2.2 w hV hM)
  rw [BK.out.1, BK.out.2.1 0 (by omega), BK.out.2.1 1 (by omega), BK.out.2.1 2 (by omega), BK.out.2.1 3 (by omega)] at RD
  clear b2 C3 B1 X2 BK
  generalize hW2 : w2.alloc (.cells #[.int .i64 (b 0), .int .i64 (b 1), .int .i64 (b 2), .int .i64 (b 3)] 25) = W2 at Ka Kb B2
  generalize hga : w1.heap.size = ga at Ka
  have hla := Ka.out.1
  generalize hgb : w2.heap.size = gb at Kb
  obtain ⟨u0, u1, u2, u3⟩ := Ka.out.2
  obtain ⟨v0, v1, v2, v3⟩ := Kb.out.2
  go_wp2_with (first | rw [hW2] | rw [hga] | rw [hgb])
  have CC := Lib.hid (L1.out W2)
  clear hW2 hga hgb u0 u1 u2 u3 v0 v1 v2 v3
  refine CC.out.mono ?_
  rintro e w3 ⟨rfl, bb⟩
  have X := Lib.hid (below_then bb (below_box w3 (.cells #[.int .i64 (max (a 0) (b 0)), .int .i64 (max (a 1) (b 1)), .int .i64 (max (a 2) (b 2)), .int .i64 (max (a 3) (b 3))] 25)))
  have Ka := Lib.hid (Ka.out.below X.out)
  have Kb := Lib.hid (Kb.out.below X.out)
  have Kx : Hid (R4 (w3.alloc (.cells #[.int .i64 (max (a 0) (b 0)), .int .i64 (max (a 1) (b 1)), .int .i64 (max (a 2) (b 2)), .int .i64 (max (a 3) (b 3))] 25)) w3.heap.size (fun j => max (a j) (b j))) := Lib.hid (r4_new w3 (fun j => max (a j) (b j)) 25)
  have B3 := Lib.hid (below_then B2.out X.out)
  clear bb X B2 CC
  generalize hW : w3.alloc (.cells #[.int .i64 (max (a 0) (b 0)), .int .i64 (max (a 1) (b 1)), .int .i64 (max (a 2) (b 2)), .int .i64 (max (a 3) (b 3))] 25) = W3 at Ka Kb Kx B3
  generalize hg : w3.heap.size = gx at Kx
  have CC := Lib.hid (L2.out W3)
  obtain ⟨u0, u1, u2, u3⟩ := Ka.out.2
  obtain ⟨v0, v1, v2, v3⟩ := Kb.out.2
  go_wp2_with (first | rw [hW] | rw [hg])
  clear hW hg u0 u1 u2 u3 v0 v1 v2 v3
  refine CC.out.mono ?_
  rintro e w4 ⟨rfl, bb⟩
  have X := Lib.hid (below_then bb (below_box w4 (.cells #[.int .i64 (max (a 0) (b 0)), .int .i64 (max (a 1) (b 1)), .int .i64 (max (a 2) (b 2)), .int .i64 (max (a 3) (b 3))] 25)))
  have Ka := Lib.hid (Ka.out.below X.out)
  have Kb := Lib.hid (Kb.out.below X.out)
  have Kx := Lib.hid (Kx.out.below X.out)
  have Ky : Hid (R4 (w4.alloc (.cells #[.int .i64 (max (a 0) (b 0)), .int .i64 (max (a 1) (b 1)), .int .i64 (max (a 2) (b 2)), .int .i64 (max (a 3) (b 3))] 25)) w4.heap.size (fun j => max (a j) (b j))) := Lib.hid (r4_new w4 (fun j => max (a j) (b j)) 25)
  have B4 := Lib.hid (below_then B3.out X.out)
  clear bb X B3 CC
  generalize hW : w4.alloc (.cells #[.int .i64 (max (a 0) (b 0)), .int .i64 (max (a 1) (b 1)), .int .i64 (max (a 2) (b 2)), .int .i64 (max (a 3) (b 3))] 25) = W4 at Ka Kb Kx Ky B4
  generalize hg : w4.heap.size = gy at Ky
  have CC := Lib.hid (D1.out W4)
  obtain ⟨u0, u1, u2, u3⟩ := Ka.out.2
  obtain ⟨v0, v1, v2, v3⟩ := Kb.out.2
  go_wp2_with (first | rw [hW] | rw [hg])
  clear hW hg u0 u1 u2 u3 v0 v1 v2 v3
  refine CC.out.mono ?_
  rintro e W5 ⟨gd, capgd, rfl, HO, bb⟩
  have Kd := Lib.hid (r4_own HO.out)
  have Ka := Lib.hid (Ka.out.below bb)
  have Kb := Lib.hid (Kb.out.below bb)
  have Kx := Lib.hid (Kx.out.below bb)
  have Ky := Lib.hid (Ky.out.below bb)
  have B5 := Lib.hid (below_then B4.out bb)
  clear bb HO B4 CC
  have CC := Lib.hid (D2.out W5)
  obtain ⟨u0, u1, u2, u3⟩ := Ka.out.2
  obtain ⟨v0, v1, v2, v3⟩ := Kb.out.2
  go_wp2_with fail
  clear u0 u1 u2 u3 v0 v1 v2 v3
  refine CC.out.mono ?_
  rintro e W6 ⟨ge, capge, rfl, HO, bb⟩
  have Ke := Lib.hid (r4_own HO.out)
  have Ka := Lib.hid (Ka.out.below bb)
  have Kb := Lib.hid (Kb.out.below bb)
  have Kx := Lib.hid (Kx.out.below bb)
  have Ky := Lib.hid (Ky.out.below bb)
  have Kd := Lib.hid (Kd.out.below bb)
  have B6 := Lib.hid (below_then B5.out bb)
  clear bb HO B5 CC
  have CC := Lib.hid (SP.out W6)
  have Y := Lib.hid (below_box W6 (.cells #[.int .i64 (a 0), .int .i64 (a 1), .int .i64 (a 2), .int .i64 (a 3), .int .i64 (b 0), .int .i64 (b 1), .int .i64 (b 2), .int .i64 (b 3)] 25))
  obtain ⟨u0, u1, u2, u3⟩ := Ka.out.2
  obtain ⟨v0, v1, v2, v3⟩ := Kb.out.2
  go_wp2_with fail
  clear u0 u1 u2 u3 v0 v1 v2 v3
  refine CC.out.mono ?_
  rintro e w7 ⟨rfl, bb⟩
  have X := Lib.hid (below_then (below_then Y.out bb) (below_box w7 (.cells #[.int .i64 (ab (b 0 - a 0)), .int .i64 (ab (b 1 - a 1)), .int .i64 (ab (b 2 - a 2)), .int .i64 (ab (b 3 - a 3))] 25)))
  have Ka := Lib.hid (Ka.out.below X.out)
  have Kb := Lib.hid (Kb.out.below X.out)
  have Kx := Lib.hid (Kx.out.below X.out)
  have Ky := Lib.hid (Ky.out.below X.out)
  have Kd := Lib.hid (Kd.out.below X.out)
  have Ke := Lib.hid (Ke.out.below X.out)
  have Ks : Hid (R4 (w7.alloc (.cells #[.int .i64 (ab (b 0 - a 0)), .int .i64 (ab (b 1 - a 1)), .int .i64 (ab (b 2 - a 2)), .int .i64 (ab (b 3 - a 3))] 25)) w7.heap.size (fun j => ab (b j - a j))) := Lib.hid (r4_new w7 (fun j => ab (b j - a j)) 25)
  have B7 := Lib.hid (below_then B6.out X.out)
  clear bb X Y B6 CC
  generalize hW : w7.alloc (.cells #[.int .i64 (ab (b 0 - a 0)), .int .i64 (ab (b 1 - a 1)), .int .i64 (ab (b 2 - a 2)), .int .i64 (ab (b 3 - a 3))] 25) = W7 at Ka Kb Kx Ky Kd Ke Ks B7
  generalize hg : w7.heap.size = gs at Ks
  have CC := Lib.hid (TX.out W7 (HV.out.below B7.out).1)
  obtain ⟨u0, u1, u2, u3⟩ := Ka.out.2
  obtain ⟨v0, v1, v2, v3⟩ := Kb.out.2
  go_wp2_with (first | rw [hW] | rw [hg])
  clear hW hg u0 u1 u2 u3 v0 v1 v2 v3
  refine CC.out.mono ?_
  rintro e W8 ⟨rfl, bb⟩
  have Ka := Lib.hid (Ka.out.below bb)
  have Kb := Lib.hid (Kb.out.below bb)
  have Kx := Lib.hid (Kx.out.below bb)
  have Ky := Lib.hid (Ky.out.below bb)
  have Kd := Lib.hid (Kd.out.below bb)
  have Ke := Lib.hid (Ke.out.below bb)
  have Ks := Lib.hid (Ks.out.below bb)
  have B8 := Lib.hid (below_then B7.out bb)
  have CC := Lib.hid (RD.out W8 (HV.out.below B8.out) (HM.out.below B8.out))
  clear bb B7 RD TX L1 L2 D1 D2 SP
  go_wp2_with fail
  refine CC.out.mono ?_
  rintro e w9 ⟨rfl, bb⟩
  have X := Lib.hid (below_then bb (below_box w9 (.cells #[.int .i64 (a 0), .int .i64 (a 1), .int .i64 (a 2), .int .i64 (a 3)] 25)))
  have Ka := Lib.hid (Ka.out.below X.out)
  have Kb := Lib.hid (Kb.out.below X.out)
  have Kx := Lib.hid (Kx.out.below X.out)
  have Ky := Lib.hid (Ky.out.below X.out)
  have Kd := Lib.hid (Kd.out.below X.out)
  have Ke := Lib.hid (Ke.out.below X.out)
  have Ks := Lib.hid (Ks.out.below X.out)
  have Kk : Hid (R4 (w9.alloc (.cells #[.int .i64 (a 0), .int .i64 (a 1), .int .i64 (a 2), .int .i64 (a 3)] 25)) w9.heap.size a) := Lib.hid (r4_new w9 a 25)
  have B9 := Lib.hid (below_then B8.out X.out)
  clear bb X B8 CC
  generalize hW : w9.alloc (.cells #[.int .i64 (a 0), .int .i64 (a 1), .int .i64 (a 2), .int .i64 (a 3)] 25) = W9 at Ka Kb Kx Ky Kd Ke Ks Kk B9
  generalize hg : w9.heap.size = gk at Kk
  have HD : Hid (∀ j, j < 4 → (0 ≤ a j ∧ a j ≤ 5000) ∧ 0 ≤ b j ∧ b j ≤ 5000) := Lib.hid (fun j hj => by
    obtain ⟨p0, p1, p2, p3⟩ := ha
    obtain ⟨q0, q1, q2, q3⟩ := hb
    obtain rfl | rfl | rfl | rfl : j = 0 ∨ j = 1 ∨ j = 2 ∨ j = 3 := by omega
    all_goals omega)
  have HS0 : Hid (All w W9 a b ga gb gx gd ge gs) := Lib.hid ⟨B9.out, Ka.out, Kb.out, Kx.out, Kd.out, Ke.out, Ks.out⟩
  obtain ⟨u0, u1, u2, u3⟩ := Ka.out.2
  obtain ⟨v0, v1, v2, v3⟩ := Kb.out.2
  obtain ⟨x0, x1, x2, x3⟩ := Kx.out.2
  obtain ⟨y0, y1, y2, y3⟩ := Ky.out.2
  obtain ⟨k0, k1, k2, k3⟩ := Kk.out.2
  go_wp2_with (first | rw [hW] | rw [hg])
  clear hW hg u0 u1 u2 u3 v0 v1 v2 v3 x0 x1 x2 x3 y0 y1 y2 y3 k0 k1 k2 k3 Ka Kb Kx Ky Kd Ke Ks Kk CC B9 HV HM ha hb
  go_loopw [19] (fun i wr => ∃ k : Nat, k ≤ 4 ∧ i = .int .i64 (k : Int) ∧ Hid (All w wr a b ga gb gx gd ge gs)) (fun i _ => 4 - (intOf i).toNat)
  case atStart => exact ⟨0, by omega, rfl, HS0⟩
  case round =>
    obtain ⟨k, hk, rfl, HI⟩ := hrel
    by_cases hlt : k < 4
    · have x0 := HI.out.2.2.2.2.1.at hlt
      have x1 := HI.out.2.2.2.2.2.1.at hlt
      have HR := HD.out k hlt
      have e0 : (0 : Int) ≤ (k : Int) := Int.natCast_nonneg _
      have e1 : (k : Int) < 4 := by omega
      have hv : -(a k - b k) = b k - a k := by omega
      generalize b k - a k = u at x0 hv
      generalize hv' : a k - b k = v at x1 hv
      have hr : -5000 ≤ v ∧ v ≤ 5000 := by omega
      have hws : IntKind.i64.wrap (-v) = u := by rw [hv]; exact IntWalk.i64_in _ (by omega)
      clear hv' HR
      go_upto_region 16 with fail
      go_quiet (fail)
      have HI2 := Lib.hid (all_drewN HI.out nq)
      go_wp2_with fail
      go_round
      case rel => exact ⟨k + 1, by omega, by go_num, HI2⟩
      case measure => simp [intOf]; omega
    · obtain rfl : k = 4 := by omega
      have HA := HI.out
      obtain ⟨HB, Ka, Kb, Kx, Kd, Ke, Ks⟩ := HA
      obtain ⟨u0, u1, u2, u3⟩ := Ka.2
      obtain ⟨v0, v1, v2, v3⟩ := Kb.2
      obtain ⟨x0, x1, x2, x3⟩ := Kx.2
      obtain ⟨d0, d1, d2, d3⟩ := Kd.2
      obtain ⟨s0, s1, s2, s3⟩ := Ks.2
      obtain ⟨⟨p0, p1⟩, q0, q1⟩ := HD.out 0 (by omega)
      obtain ⟨⟨p2, p3⟩, q2, q3⟩ := HD.out 1 (by omega)
      obtain ⟨⟨p4, p5⟩, q4, q5⟩ := HD.out 2 (by omega)
      obtain ⟨⟨p6, p7⟩, q6, q7⟩ := HD.out 3 (by omega)
      clear HB Ka Kb Kx Kd Ke Ks
      dsimp only at x0 x1 x2 x3 d0 d1 d2 d3 s0 s1 s2 s3
      have z0 : a 0 + (b 0 - a 0) = b 0 := by omega
      have z3 : a 3 + (b 3 - a 3) = b 3 := by omega
      have w0 : IntKind.i64.wrap (a 0 + (b 0 - a 0)) = b 0 := by rw [z0]; exact IntWalk.i64_in _ (by omega)
      have w3' : IntKind.i64.wrap (a 3 + (b 3 - a 3)) = b 3 := by rw [z3]; exact IntWalk.i64_in _ (by omega)
      have C0 := Lib.hid (fun w => size_any (b 0 - a 0) (by omega) w)
      have C1 := Lib.hid (fun w => size_any (b 1 - a 1) (by omega) w)
      have C2 := Lib.hid (fun w => size_any (b 2 - a 2) (by omega) w)
      have C3 := Lib.hid (fun w => size_any (b 3 - a 3) (by omega) w)
      clear z0 z3 p0 p1 p2 p3 p4 p5 p6 p7 q0 q1 q2 q3 q4 q5 q6 q7 HD HS0
      generalize b 0 - a 0 = t0 at d0 s0 w0 C0
      generalize b 1 - a 1 = t1 at d1 s1 C1
      generalize b 2 - a 2 = t2 at d2 s2 C2
      generalize b 3 - a 3 = t3 at d3 s3 w3' C3
      generalize ab t0 = r0 at s0 C0
      generalize ab t1 = r1 at s1 C1
      generalize ab t2 = r2 at s2 C2
      generalize ab t3 = r3 at s3 C3
      go_upto_region 18 with fail
      go_quiet ((first | (go_at_call 12; with_reducible exact Calls.quiet_of_same (size_of (C0.out _))) | (go_at_call 12; with_reducible exact Calls.quiet_of_same (size_of (C1.out _))) | (go_at_call 12; with_reducible exact Calls.quiet_of_same (size_of (C2.out _))) | (go_at_call 12; with_reducible exact Calls.quiet_of_same (size_of (C3.out _)))))
      have HI2 := Lib.hid (all_drewN HI.out nq)
      go_wp2_with fail
      go_ret
      exact ⟨rfl, HI2.out.1⟩
end Go.Proofs.YtcnbnpeilkdfiaaDoor.Fp
