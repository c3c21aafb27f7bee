/- SeamDifferences: the program's. -/
import Derived.Test.YtpmmfalpcooenabSdqLib
import Derived.Shelf.Abstract
namespace Go.Proofs.Ytpmmfalpcooenab.Sdu
set_option linter.unusedVariables false
open Go.RowKit Go.Maps Ft Is Ge Qb Pt Pv Za Mm Zb Zc Zd Vq Sdq

/-- A valid pattern has no more seams than edges. -/
theorem few {n : Nat} {N : Nat → ByteArray} {ms : Nat → Nat} {ds : Nat → Nat → Int} {k : Nat} {S : Nat → Int} {o : Int} (h : PatP n N ms ds k S o) : k ≤ 80 := by
  obtain ⟨p1, p2, p3, p4⟩ := pat_in h
  have sw := sew_iff.2 h.2.2
  have apart : ∀ i j, i < j → j < k → endA S i ≠ endA S j := fun i j hij hj e => by
    have h0 := (mate_none (n := n) (ms := ms) (fun q hq => (sw q (by omega)).1) (endA S j)).1 (sw j hj).2.1
    have h1 := tm_mono S ((endA S j).1 : Int) ((endA S j).2 : Int) (show i + 1 ≤ j by omega)
    obtain ⟨i1, i2, _, _⟩ := endA_int (sw i (by omega)).1
    rw [← e, i1, i2, tm_succ] at h1
    rw [← e, i1, i2] at h0
    simp only [beq_self_eq_true, Bool.and_self, if_true] at h1
    omega
  have := pigeon (fun q => ((q / 8, q % 8) : Nat × Nat)) 80 ((List.range k).map (endA S)) (by
    rw [List.pairwise_map]
    refine (List.pairwise_lt_range (n := k)).imp_of_mem fun {a b} ha hb hab => apart a b hab (by simpa using hb)) (fun x hx => by
    obtain ⟨j, hj, rfl⟩ := List.mem_map.1 hx
    have hj : j < k := by simpa using hj
    have h1 := (p4 j hj).1
    have h2 := (p2 _ h1.1).2
    refine ⟨(endA S j).1 * 8 + (endA S j).2, by omega, ?_⟩
    exact Prod.ext (by show _ = ((endA S j).1 * 8 + (endA S j).2) / 8; omega) (by show _ = ((endA S j).1 * 8 + (endA S j).2) % 8; omega))
  simpa using this
theorem vm_few (n : Nat) (N : Nat → ByteArray) (ms : Nat → Nat) (ds : Nat → Nat → Int) (k : Nat) (S : Nat → Int) (o : Int) : vM n N ms ds k S o k ≤ 1048576 := by
  unfold vM
  split
  · rename_i q
    have := few (tv_iff.1 q)
    omega
  · omega
set_option maxRecDepth 100000 in
set_option maxHeartbeats 4000000 in
theorem differences (A : Option Addr) (n c : Nat) (N : Nat → ByteArray) (ms : Nat → Nat) (ds : Nat → Nat → Int) (Y : Option Addr) (k sc : Nat) (S : Nat → Int) (o : Int) (hz : Small n N ms k) (hw : ∀ i, i < k * 4 → (Lit.int .i64 (S i)).wf = true) (hP : PatP n N ms ds k S o)
    (B : Nat) (W : World) (ea : Option Addr) (el ec bm : Nat) (P : Nat × Nat → Nat) (g : Lit → Option Value) (hR : PatR W A n N ms ds Y k S) (hS : Surf B n ms ds (plc ms n) (plc ms n) (mate S k) (.slice ea el ec) bm P g W) :
    Calls Try.prog 103 #[sfV A n c Y k sc o (.slice ea el ec) bm] W (OneAt k (dfD ds S) W) := by
  obtain ⟨_, hk, _⟩ := hz.at
  obtain ⟨p1, p2, p3, p4⟩ := pat_in hP
  have HR := Lib.hid hR
  have HS := Lib.hid hS
  obtain ⟨i0, hi0, hz0, hz1, hz2⟩ := info_parts info_int
  have HI := Lib.hid (And.intro hi0 (And.intro hz0 (And.intro hz1 hz2)))
  have HB := Lib.hid (below_box W (suC (.slice A n c) (.slice Y k sc) (.int .i64 o) (.slice ea el ec) (.map (some bm))))
  have KB := Lib.hid (heap_alloc_new W (suC (.slice A n c) (.slice Y k sc) (.int .i64 o) (.slice ea el ec) (.map (some bm))))
  have HMK : Hid (∀ w : World, (Instr.makeSlice 22 (.int .i64 0) (.int .i64 (k : Int))).run Try.prog w = .ok (.slice (some ⟨w.heap.size, 0, none⟩) 0 k) (w.alloc (.cells (Go.madeCells (Value.int .i64 0).cells (k * 1)) 2))) := Lib.hid fun w => by
    have := run_make w _ _ i0 _ Try.underlying22 hi0 hz0 .i64 .i64 0 k (by omega) (by omega) (by rw [hz2]; omega) (by omega)
    rw [hz1] at this
    simpa using this
  have HU : Hid (∀ j, upto (dfD ds S) (j + 1) = upto (dfD ds S) j ++ [.int .i64 (dfD ds S j)]) := Lib.hid fun j => upto_snoc _ _
  have HU0 : Hid (upto (dfD ds S) 0 = []) := Lib.hid rfl
  have HF : Hid (∀ v w1 w', w'.ownsRow w1.heap.size 2 1 v k (upto (dfD ds S) k) → Below W.heap.size W w1 → Below w1.heap.size w1 w' → OneAt k (dfD ds S) W (.returned v) w') := Lib.hid fun v w1 w' h1 h2 h3 => one_of_row h1 h2 h3
  have HPT : Hid (∀ j, j < k → ((endA S j).1 < n ∧ (endA S j).2 < ms (endA S j).1) ∧ ((endB S j).1 < n ∧ (endB S j).2 < ms (endB S j).1)) := Lib.hid p4
  have HDB : Hid (∀ j, j < k → (1 ≤ ds (endA S j).1 (endA S j).2 ∧ ds (endA S j).1 (endA S j).2 ≤ 10000) ∧ (1 ≤ ds (endB S j).1 (endB S j).2 ∧ ds (endB S j).1 (endB S j).2 ≤ 10000)) := Lib.hid fun j hj => ⟨p3 _ _ (p4 j hj).1.1 (p4 j hj).1.2, p3 _ _ (p4 j hj).2.1 (p4 j hj).2.2⟩
  have HDF : Hid (∀ j, dfD ds S j = ab (ds (endA S j).1 (endA S j).2 - ds (endB S j).1 (endB S j).2)) := Lib.hid fun j => rfl
  have L1 : Hid (∀ j, j < k → ∀ V, Below W.heap.size W V → (Instr.lookup 132 (.map (some bm)) (edV (S (j * 4)) (S (j * 4 + 1))) false).run Try.prog V = .ok (.pointer (some ⟨P (endA S j), 0, none⟩)) V) := Lib.hid fun j hj V hb => by
    have hS := HS.out.below hb
    have := hS.map.look law_ed Try.underlying132 (zeroP V) (key_ed (hw (j * 4) (by omega)) (hw (j * 4 + 1) (by omega)))
    have sd := (hP.2.2 j hj).1
    unfold sdB at sd
    rw [Bool.and_eq_true] at sd
    rw [hS.look p1 (fun i hi => (p2 i hi).2) (hw (j * 4) (by omega)) (hw (j * 4 + 1) (by omega)), if_pos sd.1] at this
    exact this
  have L2 : Hid (∀ j, j < k → ∀ V, Below W.heap.size W V → (Instr.lookup 132 (.map (some bm)) (edV (S (j * 4 + 2)) (S (j * 4 + 3))) false).run Try.prog V = .ok (.pointer (some ⟨P (endB S j), 0, none⟩)) V) := Lib.hid fun j hj V hb => by
    have hS := HS.out.below hb
    have := hS.map.look law_ed Try.underlying132 (zeroP V) (key_ed (hw (j * 4 + 2) (by omega)) (hw (j * 4 + 3) (by omega)))
    have sd := (hP.2.2 j hj).1
    unfold sdB at sd
    rw [Bool.and_eq_true] at sd
    rw [hS.look p1 (fun i hi => (p2 i hi).2) (hw (j * 4 + 2) (by omega)) (hw (j * 4 + 3) (by omega)), if_pos sd.2] at this
    exact this
  clear hR hS hz hw hP p1 p2 p3 p4 hi0 hz0 hz1 hz2
  generalize OneAt k (dfD ds S) W = Q at HF ⊢
  generalize upto (dfD ds S) = UP at HU HU0 HF
  generalize dfD ds S = D at HU HDF
  have hmk := HMK.out (W.alloc (suC (.slice A n c) (.slice Y k sc) (.int .i64 o) (.slice ea el ec) (.map (some bm))))
  unfold sfV
  unfold edV at L1 L2
  go_enter Try.func103, Try.ntmps103
  go_upto_region 1 with fail
  generalize hw0 : W.alloc _ = w1 at HB KB hmk ⊢
  clear hw0
  obtain ⟨x0, x1, x2, x3, x4⟩ := blk5 KB.out
  have lb := lt_of_heap KB.out
  go_wp2_with fail
  clear hmk HMK x0 x1 x2 x3 x4
  have B0 := Lib.hid (below_box w1 (.cells (Go.madeCells #[Value.int .i64 0] k) 2))
  have O0 : Hid ((w1.alloc (.cells (Go.madeCells #[Value.int .i64 0] k) 2)).ownsRow w1.heap.size 2 1 (.slice (some ⟨w1.heap.size, 0, none⟩) 0 k) 0 (UP 0)) := Lib.hid (by
    rw [HU0.out]
    exact ⟨rfl, .inr ⟨_, k, _, rfl, Nat.le_refl _, heap_alloc_new _ _, by omega, by unfold maxLen; omega, by rw [size_madeCells]; omega, rfl⟩⟩)
  go_loopw [3, 5, 6, 7, 17] (fun v _ _ _ i wr => ∃ (j : Nat) (u : Value), j ≤ k ∧ u = v ∧ i = .int .i64 (j : Int) ∧ Hid (Below w1.heap.size w1 wr) ∧ Hid (wr.ownsRow w1.heap.size 2 1 u j (UP j))) (fun _ _ _ _ i _ => k - (intOf i).toNat)
  case atStart => exact ⟨0, _, Nat.zero_le _, rfl, rfl, B0, O0⟩
  case round =>
    obtain ⟨j, v, hj, rfl, rfl, HW, HO⟩ := hrel
    have e0 : (0 : Int) ≤ (j : Int) := Int.natCast_nonneg _
    by_cases hlt : j < k
    · have e1 : (j : Int) < (k : Int) := by omega
      have hj1 : j + 1 ≤ k := by omega
      have HWB := Lib.hid (below_then HB.out HW.out)
      obtain ⟨b1, o1, rfl, hb1, hc1⟩ := (HR.out.below HWB.out).seams (by omega)
      obtain ⟨u0, u1, u2, u3⟩ := four_cells hc1 hlt
      have l1 := Lib.hid (L1.out j hlt)
      have l2 := Lib.hid (L2.out j hlt)
      obtain ⟨⟨q1, q2⟩, q3, q4⟩ := HPT.out j hlt
      obtain ⟨⟨d1, d2⟩, d3, d4⟩ := HDB.out j hlt
      have HDj := Lib.hid (HDF.out j)
      have HUj := Lib.hid (HU.out j)
      generalize D j = dj at HDj HUj
      generalize hxa : endA S j = xa at *
      generalize hxb : endB S j = xb at *
      have EG := Lib.hid (fun V (hV : Below W.heap.size W V) => And.intro ((HS.out.below hV).edg xa q1 q2).1 ((HS.out.below hV).edg xb q3 q4).1)
      generalize ds xa.1 xa.2 = da at d1 d2 HDj EG
      generalize ds xb.1 xb.2 = db at d3 d4 HDj EG
      generalize S (j * 4) = p0, S (j * 4 + 1) = p1, S (j * 4 + 2) = p2, S (j * 4 + 3) = p3 at u0 u1 u2 u3 l1 l2
      have CA := Lib.hid (fun w => place_a p0 p1 p2 p3 w)
      have CB := Lib.hid (fun w => place_b p0 p1 p2 p3 w)
      have CD := Lib.hid (fun w => i_dist da db (by omega) (by omega) w)
      unfold seV edV at CA CB
      have BX := Lib.hid (below_box wr (.cells #[.int .i64 p0, .int .i64 p1, .int .i64 p2, .int .i64 p3] 162))
      have KX := Lib.hid (heap_alloc_new wr (.cells #[.int .i64 p0, .int .i64 p1, .int .i64 p2, .int .i64 p3] 162))
      have lx : wr.heap.size < (wr.alloc (.cells #[.int .i64 p0, .int .i64 p1, .int .i64 p2, .int .i64 p3] 162)).heap.size := by simp
      have KBX := Lib.hid (blk_keep (below_then HW.out BX.out) KB.out)
      have HOX := Lib.hid (Ge.row_below HO.out BX.out)
      have HWX := Lib.hid (below_then HW.out BX.out)
      have HWBX := Lib.hid (below_then HWB.out BX.out)
      clear hc1 hj hxa hxb HDF HU L1 L2 HPT HDB
      go_upto_region 5 with fail
      generalize hsx : wr.heap.size = sx at KX lx ⊢
      generalize hwx : wr.alloc _ = wx at KX KBX HOX HWX HWBX lx ⊢
      clear hwx hsx u0 u1 u2 u3 HO HW HWB BX
      obtain ⟨s0, s1, s2, s3⟩ := blk4 KX.out
      obtain ⟨y0, y1, y2, y3, y4⟩ := blk5 KBX.out
      have s0 := bey_cell s0
      have s1 := bey_cell s1
      have s2 := bey_cell s2
      have s3 := bey_cell s3
      have y4 := bey_cell y4
      have l1 := fun z : Beyond wx => l1.out z.to (below_then HWBX.out z.h)
      have l2 := fun z : Beyond wx => l2.out z.to (below_then HWBX.out z.h)
      clear y0 y1 y2 y3
      refine wp_region_below (by kernel_rfl) (by kernel_rfl) ?_
      repeat (go_big_quiet_step (first | (go_at_call 140; with_reducible exact bey_of _ (CA.out _)) | (go_at_call 141; with_reducible exact bey_of _ (CB.out _))))
      refine wpQuiet_nil ?_
      rintro _ ⟨pq, rfl⟩
      have HWq := Lib.hid (below_then HWX.out pq.h)
      have HOq := Lib.hid (Ge.row_below HOX.out pq.h)
      have HWBq := Lib.hid (below_then HWBX.out pq.h)
      generalize pq.to = wq at HWq HOq HWBq ⊢
      clear s0 s1 s2 s3 y4 l1 l2 CA CB KX KBX HOX HWX HWBX
      obtain ⟨eA, eB⟩ := EG.out wq HWBq.out
      have ya := cell_of_row _ _ 2 _ _ _ eA
      have yb := cell_of_row _ _ 2 _ _ _ eB
      have ya : wq.cell? ⟨P xa, 2, none⟩ = some (.int .i64 da) := ya
      have yb : wq.cell? ⟨P xb, 2, none⟩ = some (.int .i64 db) := yb
      have la := lt_of_heap eA
      have lb2 := lt_of_heap eB
      have na : some (P xa) ≠ v.ownBlock := own_neT HOq.out eA (by decide)
      have nb : some (P xb) ≠ v.ownBlock := own_neT HOq.out eB (by decide)
      have hszq := HWq.out.size
      clear eA eB EG
      go_upto_region 6 with fail
      generalize hzq : wq.heap.size = sq at la lb2 hszq ⊢
      rw [← HDj.out] at CD
      go_region_held3 (fun w' => w'.cell? ⟨P xa, 2, none⟩ = some (.int .i64 da) ∧ w'.cell? ⟨P xb, 2, none⟩ = some (.int .i64 db))
        (first
          | go_keep
          | (go_split_ands
             refine ⟨?_, ?_⟩
             · (rw [hgrow.cell_far _ (by simp [hzq]; omega) na]; assumption)
             · (rw [hgrow.cell_far _ (by simp [hzq]; omega) nb]; assumption)))
        (first
          | (go_at_call 142; refine (CD.out _).mono ?_; rintro e wn ⟨rfl, rfl⟩)
          | (refine step_append_lies _ (by rfl) _ _ _ (by rfl) w1.heap.size 2 i0 _ 1 8 Try.underlying22 HI.out.1 HI.out.2.1 HI.out.2.2.1 HI.out.2.2.2 rfl (by omega) v j (UP j) (by rfl) ((HOq.out.alloc _).drew)
              ⟨sq, 0, none⟩ 1 1 [.int .i64 dj] (by rfl) (by rfl) (World.news_of_block (cs := #[.int .i64 dj]) (t := 2) (fr := (0, 0)) (hzq ▸ heap_alloc_new wq _)) (by simp [Value.oneCell'])
              (by omega) (by unfold maxLen; omega) (by omega) (by simp; omega) (sq + 1) (by simp [hzq]) ?_; intro gg cap w6 hown1 hgrow hat hlt6))
      all_goals
        have HQ := Lib.hid (((HWq.out.alloc (by rw [hzq]; exact hszq) _).drew).grown hgrow (by simp; omega) fun g hg => (HOq.out.lt g hg).1)
        have HO6 : Hid (w6.ownsRow w1.heap.size 2 1 (.slice (some ⟨gg, 0, none⟩) (j + 1) cap) (j + 1) (UP (j + 1))) := Lib.hid (by rw [HUj.out]; exact hown1)
        clear hgrow hat hlt6 hown1 ya yb na nb la lb2
        go_wp2_with fail
        go_roundw
        case rel => exact ⟨j + 1, _, hj1, rfl, by go_num, HQ, HO6⟩
        case measure => simp [intOf]; omega
    · obtain rfl : j = k := by omega
      have e1 : ¬ (j : Int) < (j : Int) := by omega
      have HZ := Lib.hid (HF.out v w1 wr HO.out HB.out HW.out)
      clear hj HU HU0 HF L1 L2
      go_wp2_with fail
      exact HZ.out
end Go.Proofs.Ytpmmfalpcooenab.Sdu
