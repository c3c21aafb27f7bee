/- PartsOf: the program's parts, and the spec's. -/
import Derived.Test.YtpmmfalpcooenabUgLib
import Derived.Test.YtpmmfalpcooenabSduLib
namespace Go.Proofs.Ytpmmfalpcooenab.Uh
set_option linter.unusedVariables false
open Go.RowKit Go.Maps Ft Is Ge Qb Pt Pv Za Mm Zb Zc Zd Vq Sdq Sdu Uf Ug

/-- The pieces of a seam. -/
def pX (S : Nat → Int) (j : Nat) : Nat := (endA S j).1
def pY (S : Nat → Int) (j : Nat) : Nat := (endB S j).1
/-- The parts of pieces. -/
def ptD (S : Nat → Int) (k : Nat) (i : Nat) : Int := (lab (pX S) (pY S) k i : Int)
theorem ld_step (X Y : Nat → Nat) (j : Nat) : (fun z => if ld X Y j z = ld X Y j (X j) then ld X Y j (Y j) else ld X Y j z) = ld X Y (j + 1) := rfl
set_option maxRecDepth 100000 in
set_option maxHeartbeats 2000000 in
theorem parts (A : Option Addr) (n c : Nat) (N : Nat → ByteArray) (ms : Nat → Nat) (ds : Nat → Nat → Int) (Y : Option Addr) (k sc : Nat) (S : Nat → Int) (o : Int) (hz : Small n N ms k) (hP : PatP n N ms ds k S o)
    (W : World) (ea : Option Addr) (el ec bm : Nat) (hR : PatR W A n N ms ds Y k S) :
    Calls Try.prog 104 #[sfV A n c Y k sc o (.slice ea el ec) bm] W (OneAt n (ptD S k) W) := by
  obtain ⟨_, hkk, _⟩ := hz.at
  obtain ⟨p1, p2, p3, p4⟩ := pat_in hP
  have HR := Lib.hid hR
  obtain ⟨i0, hi0, hz0, hz1, hz2⟩ := info_parts info_int
  have HI := Lib.hid (And.intro hi0 (And.intro hz0 (And.intro hz1 hz2)))
  have HB := Lib.hid (below_box W (suC (.slice A n c) (.slice Y k sc) (.int .i64 o) (.slice ea el ec) (.map (some bm))))
  have KB := Lib.hid (heap_alloc_new W (suC (.slice A n c) (.slice Y k sc) (.int .i64 o) (.slice ea el ec) (.map (some bm))))
  have HMK : Hid (∀ w : World, (Instr.makeSlice 22 (.int .i64 0) (.int .i64 (n : Int))).run Try.prog w = .ok (.slice (some ⟨w.heap.size, 0, none⟩) 0 n) (w.alloc (.cells (Go.madeCells (Value.int .i64 0).cells (n * 1)) 2))) := Lib.hid fun w => by
    have := run_make w _ _ i0 _ Try.underlying22 hi0 hz0 .i64 .i64 0 n (by omega) (by omega) (by rw [hz2]; omega) (by omega)
    rw [hz1] at this
    simpa using this
  have HU : Hid (∀ j, upto (fun i => (i : Int)) (j + 1) = upto (fun i => (i : Int)) j ++ [.int .i64 (j : Int)]) := Lib.hid fun j => upto_snoc _ _
  have HU0 : Hid (upto (fun i => (i : Int)) 0 = []) := Lib.hid rfl
  have HPT : Hid (∀ j, j < k → S (j * 4) = (pX S j : Int) ∧ S (j * 4 + 2) = (pY S j : Int) ∧ pX S j < 1000 ∧ pY S j < 1000) := Lib.hid fun j hj => by
    obtain ⟨i1, i2, i3, i4⟩ := endA_int (hP.2.2 j hj).1
    have := p4 j hj
    exact ⟨i1.symm, i3.symm, by unfold pX; omega, by unfold pY; omega⟩
  have CJ := Lib.hid (fun w b j h hx hy => join w b (ld (pX S) (pY S) j) h (pX S j) (pY S j) hx hy)
  have HST : Hid (∀ j, (fun z => if ld (pX S) (pY S) j z = ld (pX S) (pY S) j (pX S j) then ld (pX S) (pY S) j (pY S j) else ld (pX S) (pY S) j z) = ld (pX S) (pY S) (j + 1)) := Lib.hid fun j => ld_step _ _ _
  have CF := Lib.hid (fun w b h A c hA => firsts w b (ld (pX S) (pY S) k) h A n c (fun i => i) (by omega) (fun i hi => by omega) hA)
  have HQ : Hid (∀ w1 e w', OneAt n (fun i => (fi (ld (pX S) (pY S) k) (fun i => i) i : Int)) w1 e w' → Below W.heap.size W w1 → OneAt n (ptD S k) W e w') := Lib.hid fun w1 e w' ⟨A, cap, e1, h1, h2⟩ hb => ⟨A, cap, e1, Lib.hid (by
    have : (fun i => (fi (ld (pX S) (pY S) k) (fun i => i) i : Int)) = ptD S k := funext fun i => by unfold ptD; rw [fi_lab]
    rw [← this]
    exact Bw.own_later h1.out hb.size), below_then hb h2⟩
  clear hR hz hP p2 p3 p4 hi0 hz0 hz1 hz2
  generalize OneAt n (ptD S k) W = Q at HQ ⊢
  have L0 : Hid (StI (W.alloc (suC (.slice A n c) (.slice Y k sc) (.int .i64 o) (.slice ea el ec) (.map (some bm))) |>.alloc (.map #[] 0)) (W.alloc (suC (.slice A n c) (.slice Y k sc) (.int .i64 o) (.slice ea el ec) (.map (some bm)))).heap.size (ld (pX S) (pY S) 0)) := Lib.hid (Sta.made _)
  generalize ld (pX S) (pY S) = L at *
  have hmm := run_makeMap (P := Try.prog) 177 (W.alloc (suC (.slice A n c) (.slice Y k sc) (.int .i64 o) (.slice ea el ec) (.map (some bm))))
  unfold sfV
  go_enter Try.func104, Try.ntmps104
  go_upto_region 1 with fail
  have s1 : Hid ((W.alloc (suC (.slice A n c) (.slice Y k sc) (.int .i64 o) (.slice ea el ec) (.map (some bm)))).heap.size = W.heap.size + 1) := Lib.hid (by simp)
  generalize hw0 : W.alloc _ = w1 at HB KB L0 hmm s1 ⊢
  clear hw0
  have B2 := Lib.hid (below_then HB.out (below_box w1 (.map #[] 0)))
  have K2 := Lib.hid (Ge.blk_keep (below_box w1 (.map #[] 0)) KB.out)
  go_upto_region 2 with fail
  have hs2 : Hid ((w1.alloc (.map #[] 0)).heap.size = w1.heap.size + 1) := Lib.hid (by simp)
  generalize w1.alloc (.map #[] 0) = w2 at B2 K2 L0 hs2 ⊢
  generalize hmp : w1.heap.size = mp at L0 hs2 ⊢
  have hmpW : Hid (mp = W.heap.size + 1) := Lib.hid (by rw [← hmp]; exact s1.out)
  clear hmm hmp
  obtain ⟨x0, x1, x2, x3, x4⟩ := blk5 K2.out
  have lb := lt_of_heap K2.out
  go_upto_region 3 with fail
  clear x0 x1 x2 x3 x4
  go_loopw [5, 13] (fun _ i wr => ∃ j : Nat, j ≤ k ∧ i = .int .i64 (j : Int) ∧ Hid (Below W.heap.size W wr) ∧ Hid (wr.heap[W.heap.size]? = some (suC (.slice A n c) (.slice Y k sc) (.int .i64 o) (.slice ea el ec) (.map (some bm)))) ∧ Hid (StI wr mp (L j))) (fun _ i _ => k - (intOf i).toNat)
  case atStart => exact ⟨0, Nat.zero_le _, rfl, B2, K2, L0⟩
  case round =>
    obtain ⟨j, hj, rfl, HW, HK, HL⟩ := hrel
    have e0 : (0 : Int) ≤ (j : Int) := Int.natCast_nonneg _
    by_cases hlt : j < k
    · have e1 : (j : Int) < (k : Int) := by omega
      have hj1 : j + 1 ≤ k := by omega
      obtain ⟨b1, o1, rfl, hb1, hc1⟩ := (HR.out.below HW.out).seams (by omega)
      obtain ⟨u0, u1, u2, u3⟩ := four_cells hc1 hlt
      obtain ⟨q1, q2, q3, q4⟩ := HPT.out j hlt
      rw [q1] at u0
      rw [q2] at u2
      have HLj := Lib.hid (HST.out j)
      generalize S (j * 4 + 1) = p1', S (j * 4 + 3) = p3' at u1 u3
      have BX := Lib.hid (below_box wr (.cells #[.int .i64 (pX S j : Int), .int .i64 p1', .int .i64 (pY S j : Int), .int .i64 p3'] 162))
      have KX := Lib.hid (heap_alloc_new wr (.cells #[.int .i64 (pX S j : Int), .int .i64 p1', .int .i64 (pY S j : Int), .int .i64 p3'] 162))
      have HWX := Lib.hid (below_then HW.out BX.out)
      have HKX := Lib.hid (Ge.blk_keep BX.out HK.out)
      have HLX := Lib.hid (HL.out.below BX.out)
      clear hc1
      go_upto_region 5 with fail
      generalize hsx : wr.heap.size = sx at KX ⊢
      generalize hwx : wr.alloc _ = wx at KX HWX HKX HLX ⊢
      clear hwx hsx u0 u1 u2 u3 HW HK HL BX
      obtain ⟨s0, s1', s2, s3⟩ := blk4 KX.out
      have C := Lib.hid (CJ.out wx mp j HLX.out q3 q4)
      rw [HLj.out] at C
      go_wp2_with fail
      refine C.out.mono ?_
      rintro e w3 ⟨rfl, hl3, hb3⟩
      have HL3 := Lib.hid hl3
      have hm' := hmpW.out
      have HW3 := Lib.hid (HWX.out.trans (hb3.below (by omega) HWX.out.size))
      have HK3 := Lib.hid (Bw.blk_but HKX.out hb3 (by omega))
      clear hl3 hb3 hm' C s0 s1' s2 s3 HWX HKX HLX KX
      go_wp2_with fail
      go_roundw
      case rel => exact ⟨j + 1, hj1, by go_num, HW3, HK3, HL3⟩
      case measure => simp [intOf]; omega
    · have hjk : j = k := by omega
      subst hjk
      have e1 : ¬ (j : Int) < (j : Int) := by omega
      clear hj hlt CJ HST HPT
      obtain ⟨x0, x1, x2, x3, x4⟩ := blk5 HK.out
      have lb := lt_of_heap HK.out
      have hmk := HMK.out wr
      go_wp2_with fail
      clear x0 x1 x2 x3 x4 hmk HMK
      have B0 := Lib.hid (below_then HW.out (below_box wr (.cells (Go.madeCells #[Value.int .i64 0] n) 2)))
      have L1 := Lib.hid (HL.out.below (below_box wr (.cells (Go.madeCells #[Value.int .i64 0] n) 2)))
      have bb0 := Lib.hid (below_box wr (.cells (Go.madeCells #[Value.int .i64 0] n) 2))
      have O0 : Hid ((wr.alloc (.cells (Go.madeCells #[Value.int .i64 0] n) 2)).ownsRow wr.heap.size 2 1 (.slice (some ⟨wr.heap.size, 0, none⟩) 0 n) 0 (upto (fun i => (i : Int)) 0)) := Lib.hid (by
        rw [HU0.out]
        exact ⟨rfl, .inr ⟨_, n, _, rfl, Nat.le_refl _, heap_alloc_new _ _, by omega, by unfold maxLen; omega, by rw [size_madeCells]; omega, rfl⟩⟩)
      go_loopw [6, 7, 33] (fun v _ i wr' => ∃ (q : Nat) (u : Value), q ≤ n ∧ u = v ∧ i = .int .i64 (q : Int) ∧ Hid (Below wr.heap.size wr wr') ∧ Hid (wr'.ownsRow wr.heap.size 2 1 u q (upto (fun i => (i : Int)) q))) (fun _ _ i _ => n - (intOf i).toNat)
      case atStart => exact ⟨0, _, Nat.zero_le _, rfl, rfl, bb0, O0⟩
      case round =>
        obtain ⟨q, v, hq, rfl, rfl, HW2, HO⟩ := hrel
        have e0 : (0 : Int) ≤ (q : Int) := Int.natCast_nonneg _
        have hsz := HW2.out.size
        by_cases hlt : q < n
        · have e2 : (q : Int) < (n : Int) := by omega
          have hq1 : q + 1 ≤ n := by omega
          have HUq := Lib.hid (HU.out q)
          go_wp2_with (at_builtin; refine wpList_append_own _ rfl _ _ 22 rfl _ 2 i0 _ 1 8 Try.underlying22 HI.out.1 HI.out.2.1 HI.out.2.2.1 HI.out.2.2.2 rfl (by decide) _ _ _ rfl (HO.out.alloc _) ⟨wr.heap.size, 0, none⟩ 1 1 [.int .i64 (q : Int)] rfl rfl ?c1 ?c2 ?c3 ?c4 ?c5 ?_)
          case c1 =>
            intro q' u hu
            rw [Addr.add_lit, Nat.zero_add]
            exact (cell_of_row _ _ q' _ _ _ (heap_alloc_new _ _)).trans (by simpa using hu)
          case c2 => simp [Value.oneCell']
          case c3 => unfold maxLen; omega
          case c4 => omega
          case c5 => first | omega | (simp <;> omega)
          intro v' w6 hown2 hgrow _
          have HQ6 := Lib.hid ((HW2.out.alloc (by omega) _).grown hgrow (by simp; omega) fun g hg => (HO.out.lt g hg).1)
          have HO6 := Lib.hid hown2
          rw [← HUq.out] at HO6
          clear hown2 hgrow
          go_wp2_with fail
          go_roundw
          case rel => exact ⟨q + 1, _, hq1, rfl, by go_num, HQ6, HO6⟩
          case measure => simp [intOf]; omega
        · have hqn : q = n := by omega
          subst hqn
          have e2 : ¬ (q : Int) < (q : Int) := by omega
          have HL3 := Lib.hid (HL.out.below HW2.out)
          have HBB := Lib.hid (below_then HW.out HW2.out)
          obtain ⟨A2, cap2, rfl, HO2⟩ := Sdq.own_of_row HO.out
          have C := Lib.hid (CF.out _ mp HL3.out A2 cap2 HO2.nums)
          clear HO HO2 hq HU HU0
          go_wp2_with fail
          refine C.out.mono ?_
          rintro e w7 h7
          have HZ := Lib.hid (HQ.out _ _ _ h7 HBB.out)
          obtain ⟨A3, cap3, rfl, _, _⟩ := h7
          clear C
          go_wp2_with fail
          exact HZ.out
end Go.Proofs.Ytpmmfalpcooenab.Uh
