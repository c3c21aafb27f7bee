/- What a foot on a last costs: the spec's and the program's. -/
import Derived.Test.YtaoknbhpjnileabLaLib
import Derived.Test.YtaoknbhpjnileabFvLib
import Derived.Test.YtaoknbhpjnileabFaLib
import Derived.Test.YtaoknbhpjnileabLmLib
import Derived.Deep.DeepCutAuto
import Derived.Deep.DeepMust
namespace Go.Proofs.Ytaoknbhpjnileab.Co
open Go.RowKit Ft Is Fi La Fa

/-- A sum of products, one by one. -/
def ps (p d : Nat → Int) : Nat → Int
  | 0 => 0
  | k + 1 => ps p d k + p k * d k
/-- What the foot a lacks of the last's room, and by how much each other measure is off. -/
def df (mn : Int) (x a : Nat → Int) (k : Nat) : Int := if k = 0 then x 0 - a 0 - mn else gap (x k) (a k)
/-- The last is refused. -/
def rf (mn mx gi : Int) (x a : Nat → Int) : Prop := ¬ (mn ≤ x 0 - a 0 ∧ x 0 - a 0 ≤ mx ∧ gap (x 1) (a 1) ≤ gi ∧ gap (x 2) (a 2) ≤ gi ∧ gap (x 3) (a 3) ≤ gi)
open Classical in
noncomputable def ct (mn mx gi : Int) (p x a : Nat → Int) : Int := if rf mn mx gi x a then -1 else ps p (df mn x a) 4
theorem gap_nn (a b : Int) : 0 ≤ gap a b := by unfold gap; split <;> omega
theorem ps_bd {p d : Nat → Int} {u v : Int} (hu : 0 ≤ u) {n : Nat} (h : ∀ k, k < n → 0 ≤ p k ∧ p k ≤ u ∧ 0 ≤ d k ∧ d k ≤ v) : ∀ k, k ≤ n → 0 ≤ ps p d k ∧ ps p d k ≤ k * (u * v) := by
  intro k
  induction k with
  | zero => intro _; exact ⟨Int.le_refl _, by simp [ps]⟩
  | succ k ih =>
    intro hk
    obtain ⟨h1, h2⟩ := ih (by omega)
    obtain ⟨a, b, c, e⟩ := h k (by omega)
    have q := Int.mul_nonneg a c
    have q' := Int.mul_le_mul b e c hu
    have hs : ((k + 1 : Nat) : Int) * (u * v) = k * (u * v) + u * v := by push_cast; rw [Int.add_mul]; omega
    rw [hs]
    show 0 ≤ ps p d k + p k * d k ∧ ps p d k + p k * d k ≤ _
    omega
theorem ct_room {mn mx gi : Int} {p x a : Nat → Int} (h : inB (x 0 - a 0) mn mx = false) : ct mn mx gi p x a = -1 := if_pos fun ⟨h1, h2, _⟩ => by simp [inB, h1, h2] at h
theorem ct_gap {mn mx gi : Int} {p x a : Nat → Int} {k : Nat} (h0 : 1 ≤ k) (h4 : k < 4) (h : gi < gap (x k) (a k)) : ct mn mx gi p x a = -1 := if_pos fun ⟨_, _, h1, h2, h3⟩ => by
  obtain rfl | rfl | rfl : k = 1 ∨ k = 2 ∨ k = 3 := by omega
  all_goals omega
theorem ct_yes {mn mx gi : Int} {p x a : Nat → Int} (h : inB (x 0 - a 0) mn mx = true) (hk : ∀ k, 1 ≤ k → k < 4 → gap (x k) (a k) ≤ gi) : ct mn mx gi p x a = ps p (df mn x a) 4 := if_neg fun e => e (by
  have h' : mn ≤ x 0 - a 0 ∧ x 0 - a 0 ≤ mx := by simpa [inB] using h
  exact ⟨h'.1, h'.2, hk 1 (by omega) (by omega), hk 2 (by omega) (by omega), hk 3 (by omega) (by omega)⟩)
theorem prod_in {u v : Int} (h0 : 0 ≤ u) (h1 : u ≤ 100) (h2 : 0 ≤ v) (h3 : v ≤ 500) : 0 ≤ u * v ∧ u * v ≤ 50000 := by
  have q := Int.mul_nonneg h0 h2
  have q' := Int.mul_le_mul h1 h3 h2 (by omega)
  omega
theorem gaps_yet {x a : Nat → Int} {gi : Int} {k : Nat} (h : ∀ j, 1 ≤ j → j < k → gap (x j) (a j) ≤ gi) (hk : gap (x k) (a k) ≤ gi) : ∀ j, 1 ≤ j → j < k + 1 → gap (x j) (a j) ≤ gi := fun j h1 hj => by
  by_cases e : j = k
  · rw [e]; exact hk
  · exact h j h1 (by omega)

/-- What the walk knows of a world: the two feet's numbers, the prices, the fit; all that lay before lies as it was. -/
structure Kn (w W : World) (ga gb gp off g : Nat) (x a p : Nat → Int) (mn mx gi : Int) (c : Nat) : Prop where
  bel : Below w.heap.size w W
  cx : ∀ j, j < 4 → W.cell? ⟨ga, j, none⟩ = some (.int .i64 (x j))
  ca : ∀ j, j < 4 → W.cell? ⟨gb, j, none⟩ = some (.int .i64 (a j))
  cp : ∀ j, j < 4 → W.cell? ⟨gp, off + j, none⟩ = some (.int .i64 (p j))
  cf : W.cell? ⟨g, 0, none⟩ = some (.int .i64 mn) ∧ W.cell? ⟨g, 1, none⟩ = some (.int .i64 mx) ∧ W.cell? ⟨g, 2, none⟩ = some (.int .i64 gi) ∧ W.cell? ⟨g, 3, none⟩ = some (.slice (some ⟨gp, off, none⟩) 4 c)
theorem Kn.drewN {w W : World} {ga gb gp off g : Nat} {x a p : Nat → Int} {mn mx gi : Int} {c : Nat} (h : Kn w W ga gb gp off g x a p mn mx gi c) (q : Nat) : Kn w (W.drewN q) ga gb gp off g x a p mn mx gi c :=
  ⟨⟨h.bel.os, h.bel.tape, h.bel.output, h.bel.size, h.bel.block⟩, h.cx, h.ca, h.cp, h.cf⟩

set_option maxRecDepth 100000 in
set_option maxHeartbeats 2000000 in
theorem spec_cost (s : ByteArray) (x a : Nat → Int) (mn mx gi : Int) (A : Option Addr) (c : Nat) (p : Nat → Int) (hx : Mild x) (ha : Mild a) (h0 : 0 ≤ mn) (h1 : mx ≤ 500) (h2 : gi ≤ 500) (hp : ∀ k, k < 4 → 0 ≤ p k ∧ p k ≤ 100) (g : Nat) (w : World)
    (hg : w.heap[g]? = some (.cells #[.int .i64 mn, .int .i64 mx, .int .i64 gi, .slice A 4 c] 37 (0, 0))) (hA : Nums w w.heap.size A 4 p) :
    Calls Try.prog 58 #[laV s x, .agg #[.int .i64 (a 0), .int .i64 (a 1), .int .i64 (a 2), .int .i64 (a 3)], .pointer (some ⟨g, 0, none⟩)] w
      fun e w' => e = .returned (.int .i64 (ct mn mx gi p x a)) ∧ Below w.heap.size w w' := by
  have HW := Lib.hid (below2 w (laC s x 33) (.cells #[.int .i64 (a 0), .int .i64 (a 1), .int .i64 (a 2), .int .i64 (a 3)] 35))
  obtain ⟨kx, ka⟩ := two w (laC s x 33) (.cells #[.int .i64 (a 0), .int .i64 (a 1), .int .i64 (a 2), .int .i64 (a 3)] 35)
  have KX := Lib.hid kx
  have KA := Lib.hid ka
  have KG := Lib.hid hg
  have HA := Lib.hid hA
  clear kx ka hg hA
  have MX := Lib.hid hx
  have MA := Lib.hid ha
  clear hx ha
  have HN0 := Lib.hid (fun h => ct_room (gi := gi) (p := p) (x := x) (a := a) (mn := mn) (mx := mx) h)
  have HNk := Lib.hid (fun k (h0 : 1 ≤ k) (h4 : k < 4) h => ct_gap (mn := mn) (mx := mx) (gi := gi) (p := p) (x := x) (a := a) h0 h4 h)
  have HY := Lib.hid (fun h hk => ct_yes (mn := mn) (mx := mx) (gi := gi) (p := p) (x := x) (a := a) h hk)
  generalize ct mn mx gi p x a = R at HN0 HNk HY ⊢
  go_enter Try.func58, Try.ntmps58
  go_wp2_with fail
  refine (foot_spec s x _).mono ?_
  rintro e w1 ⟨rfl, b1⟩
  have HB1 := Lib.hid (below_then HW.out b1)
  have KA1 := Lib.hid (Ge.blk_keep b1 KA.out)
  clear b1 KA
  go_wp2_with fail
  refine (Ld.four_any x _).mono ?_
  rintro e w3 ⟨ga, rfl, hga, hla, b3, hca⟩
  have HB3 := Lib.hid (below_then HB1.out b3)
  have KA3 := Lib.hid (Ge.blk_keep b3 KA1.out)
  clear b3 KA1
  obtain ⟨y0, y1, y2, y3⟩ := Ge.blk4 KA3.out
  go_wp2_with fail
  refine (Ld.four_any a _).mono ?_
  rintro e w4 ⟨gb, rfl, hgb, hlb, b4, hcb⟩
  have HB4 := Lib.hid (below_then HB3.out b4)
  have H6 : Hid (∀ j, j < 4 → w4.cell? ⟨ga, j, none⟩ = some (.int .i64 (x j))) := Lib.hid fun j hj => (b4.cell (p := ⟨ga, j, none⟩) hla).trans (hca.out j hj)
  have H7 := hcb
  have KG4 := Lib.hid (Ge.blk_keep ((Below.refl _ _).trans HB4.out) KG.out)
  have HA4 := Lib.hid ((HA.out.below HB4.out (Nat.le_refl _)).more HB4.out.size)
  clear y0 y1 y2 y3 b4 hca hcb KG HA hga hla hgb hlb KA3 HB3 HB1
  obtain ⟨gp, off, rfl, hbp, hcp⟩ := HA4.out (by omega)
  have KN := Lib.hid (Kn.mk (p := p) HB4.out H6.out H7.out (fun j hj => hcp j hj) (Ge.blk4 KG4.out))
  clear hcp hbp HA4 KG4 HB4 H6 H7
  have x0 := KN.out.cx 0 (by omega)
  have y0 := KN.out.ca 0 (by omega)
  go_wp2_with fail
  have h0x := MX.out 0 (by omega)
  have h0a := MA.out 0 (by omega)
  have hwr : IntKind.i64.wrap (x 0 - a 0) = x 0 - a 0 := IntWalk.i64_in _ (by omega)
  go_quiet (fail)
  have KN5 := Lib.hid (KN.out.drewN nq)
  clear x0 y0 KN
  generalize w4.drewN nq = w5 at KN5 ⊢
  obtain ⟨g0, g1, g2, g3⟩ := KN5.out.cf
  go_wp2_with fail
  have C := Lib.hid (fun w => in_any (x 0 - a 0) mn mx w)
  have HI : Hid (inB (x 0 - a 0) mn mx = true → mn ≤ x 0 - a 0 ∧ x 0 - a 0 ≤ mx) := Lib.hid (by intro h; simpa [inB] using h)
  generalize inB (x 0 - a 0) mn mx = r at C HN0 HY HI
  cases r
  · have HF := Lib.hid (HN0.out rfl)
    go_quiet ((go_at_call 69; refine Calls.quiet_of_same ((C.out _).mono fun _ _ h => ⟨h.1, h.2.symm⟩)))
    have KN6 := Lib.hid (KN5.out.drewN nq)
    generalize w5.drewN nq = w6 at KN6 ⊢
    go_wp2_with fail
    go_ret
    exact ⟨by rw [HF.out]; rfl, KN6.out.bel⟩
  · obtain ⟨i1, i2⟩ := HI.out rfl
    have HYY := Lib.hid (HY.out rfl)
    clear HN0 HY HI
    obtain ⟨q1, q2⟩ := hp 0 (by omega)
    obtain ⟨u1, u2⟩ := prod_in (u := p 0) (v := x 0 - a 0 - mn) q1 q2 (by omega) (by omega)
    have hwr2 : IntKind.i64.wrap (x 0 - a 0 - mn) = x 0 - a 0 - mn := IntWalk.i64_in _ (by omega)
    have hwr3 : IntKind.i64.wrap (p 0 * (x 0 - a 0 - mn)) = p 0 * (x 0 - a 0 - mn) := IntWalk.i64_in _ (by omega)
    go_quiet ((go_at_call 69; refine Calls.quiet_of_same ((C.out _).mono fun _ _ h => ⟨h.1, h.2.symm⟩)))
    have KN6 := Lib.hid (KN5.out.drewN nq)
    clear g0 g1 g2 g3 KN5
    generalize w5.drewN nq = w6 at KN6 ⊢
    obtain ⟨g0, g1, g2, g3⟩ := KN6.out.cf
    have p0 : w6.cell? ⟨gp, off, none⟩ = some (.int .i64 (p 0)) := KN6.out.cp 0 (by omega)
    go_wp2_with fail
    go_quiet (fail)
    have KN7 := Lib.hid (KN6.out.drewN nq)
    clear g0 g1 g2 g3 p0 KN6
    generalize w6.drewN nq = w7 at KN7 ⊢
    go_wp2_with fail
    go_loopw [10, 11] (fun sm n wr => ∃ k : Nat, 1 ≤ k ∧ k ≤ 4 ∧ n = .int .i64 k ∧ sm = .int .i64 (ps p (df mn x a) k) ∧ Hid (0 ≤ ps p (df mn x a) k ∧ ps p (df mn x a) k ≤ k * 50000) ∧ Hid (Kn w wr ga gb gp off g x a p mn mx gi c) ∧ Hid (∀ j, 1 ≤ j → j < k → gap (x j) (a j) ≤ gi)) (fun _ n _ => 4 - (intOf n).toNat)
    case atStart =>
      refine ⟨1, by omega, by omega, rfl, ?_, Lib.hid ?_, KN7, Lib.hid fun j h hj => by omega⟩
      · simp [ps, df]
      · simp [ps, df]; omega
    case round =>
      obtain ⟨k, hk1, hk, rfl, rfl, HS, KR, HK⟩ := hrel
      by_cases hlt : k < 4
      · have z0 := KR.out.cx k hlt
        have z1 := KR.out.ca k hlt
        have z2 := KR.out.cp k hlt
        obtain ⟨_, _, z3, z4⟩ := KR.out.cf
        have e0 : (0 : Int) ≤ (k : Int) := Int.natCast_nonneg _
        have e1 : (k : Int) < 4 := by omega
        have C1 := Lib.hid (fun w => size_any (x k) (a k) (MX.out k hlt) (MA.out k hlt) w)
        obtain ⟨s1, s2⟩ := MX.out k hlt
        obtain ⟨s3, s4⟩ := MA.out k hlt
        obtain ⟨q3, q4⟩ := hp k hlt
        have gn := gap_nn (x k) (a k)
        have HNx := Lib.hid (HNk.out k hk1 hlt)
        have HKx := Lib.hid (fun h => gaps_yet HK.out (k := k) h)
        have HD : Hid (df mn x a k = gap (x k) (a k)) := Lib.hid (if_neg (by omega))
        have HS1 : Hid (ps p (df mn x a) (k + 1) = ps p (df mn x a) k + p k * gap (x k) (a k)) := Lib.hid (by rw [← HD.out]; rfl)
        obtain ⟨t1, t2⟩ := HS.out
        clear HD HS
        generalize hS1 : ps p (df mn x a) (k + 1) = S1 at HS1
        generalize ps p (df mn x a) k = S at HS1 t1 t2 ⊢
        generalize gap (x k) (a k) = d at C1 HNx HKx gn HS1
        generalize x k = u at z0 C1 s1 s2
        generalize a k = v at z1 C1 s3 s4
        generalize hm : p k = m at z2 q3 q4 HS1
        have hwk : IntKind.i64.wrap (u - v) = u - v := IntWalk.i64_in _ (by omega)
        go_wp2_with fail
        go_quiet ((go_at_call 103; refine Calls.quiet_of_same ((C1.out _).mono fun _ _ h => ⟨h.1, h.2.symm⟩)))
        have KR2 := Lib.hid (KR.out.drewN nq)
        clear z0 z1 z2 z3 z4 KR
        generalize hwq : wr.drewN nq = wq at KR2 ⊢
        clear hwq
        obtain ⟨_, _, z3, z4⟩ := KR2.out.cf
        have z2 : wq.cell? ⟨gp, off + k, none⟩ = some (.int .i64 m) := by rw [← hm]; exact KR2.out.cp k hlt
        clear hm
        by_cases hd : gi < d
        · go_wp2_with fail
          go_ret
          exact ⟨by rw [HNx.out hd]; rfl, KR2.out.bel⟩
        · have HD2 := Lib.hid (HKx.out (by omega))
          obtain ⟨v1, v2⟩ := prod_in (u := m) (v := d) q3 q4 gn (by omega)
          have hwm : IntKind.i64.wrap (m * d) = m * d := IntWalk.i64_in _ (by omega)
          have hws : IntKind.i64.wrap (S + m * d) = S + m * d := IntWalk.i64_in _ (by omega)
          go_wp2_with fail
          go_roundw
          case rel =>
            refine ⟨k + 1, by omega, by omega, by go_num, ?_, Lib.hid ?_, KR2, HD2⟩
            · rw [hS1, HS1.out]
            · rw [hS1, HS1.out]; push_cast; omega
          case measure => simp [intOf]; omega
      · obtain rfl : k = 4 := by omega
        have HD := Lib.hid (HYY.out fun j h1 hj => HK.out j h1 hj)
        generalize ps p (df mn x a) 4 = S at HD HS ⊢
        go_wp2_with fail
        go_ret
        exact ⟨by rw [HD.out]; rfl, KR.out.bel⟩
end Go.Proofs.Ytaoknbhpjnileab.Co
