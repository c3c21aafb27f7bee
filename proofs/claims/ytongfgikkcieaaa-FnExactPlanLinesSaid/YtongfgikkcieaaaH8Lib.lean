/- Hides: the spec's UsedShare. -/
import Derived.Test.YtongfgikkcieaaaH6Lib
import Derived.Test.YtongfgikkcieaaaFrLib
namespace Go.Proofs.Ytongfgikkcieaaa.H8
set_option linter.unusedVariables false
open Go.RowKit Ft Is Ge Qb Hd Ts H2 H3 H5 H6
open Go.Proofs.Ytongfgikkcieaaa.Nm (byt byt_of)

/-- Fields of pieces that are cut. -/
def usI (g p : Nat → Int) : Nat → Int
  | 0 => 0
  | m + 1 => usI g p m + if 0 ≤ p m then g (m * 4) * g (m * 4 + 1) else 0
theorem prod_in {a b : Int} (h1 : 1 ≤ a ∧ a ≤ 6) (h2 : 1 ≤ b ∧ b ≤ 6) : 1 ≤ a * b ∧ a * b ≤ 36 := by
  obtain ⟨x, rfl⟩ : ∃ x : Nat, a = (x : Int) := ⟨a.toNat, by omega⟩
  obtain ⟨y, rfl⟩ : ∃ y : Nat, b = (y : Int) := ⟨b.toNat, by omega⟩
  have h3 : x * y ≤ 6 * 6 := Nat.mul_le_mul (by omega) (by omega)
  have h4 : 1 * 1 ≤ x * y := Nat.mul_le_mul (by omega) (by omega)
  rw [show (x : Int) * (y : Int) = ((x * y : Nat) : Int) from (Int.natCast_mul _ _).symm]
  omega
theorem us_in {k : Nat} {g p : Nat → Int} (hC : CutsP k g) : ∀ {m : Nat}, m ≤ k → 0 ≤ usI g p m ∧ usI g p m ≤ 36 * (m : Int)
  | 0, _ => ⟨Int.le_refl _, Int.le_refl _⟩
  | m + 1, h => by
    have h1 := us_in (p := p) hC (show m ≤ k by omega)
    have h2 := cu_in (hC.1 m (by omega))
    have h3 := prod_in h2.1 h2.2.1
    unfold usI
    split <;> omega
/-- Fields with a quality. -/
def gdR (s : ByteArray) : Nat → Int
  | 0 => 0
  | m + 1 => gdR s m + if 0 < qI (byt s m) then 1 else 0
theorem gdr_in (s : ByteArray) : ∀ m, 0 ≤ gdR s m ∧ gdR s m ≤ (m : Int)
  | 0 => ⟨Int.le_refl _, Int.le_refl _⟩
  | m + 1 => by
    have := gdr_in s m
    unfold gdR
    split <;> omega
def gdH (f : Nat → ByteArray) : Nat → Int
  | 0 => 0
  | k + 1 => gdH f k + gdR (f k) (f k).size
theorem gdh_in {n : Nat} {f : Nat → ByteArray} (h : HideP n f) : ∀ {k : Nat}, k ≤ n → 0 ≤ gdH f k ∧ gdH f k ≤ 6 * (k : Int)
  | 0, _ => ⟨Int.le_refl _, Int.le_refl _⟩
  | k + 1, hk => by
    have h1 := gdh_in h (show k ≤ n by omega)
    have h2 := gdr_in (f k) (f k).size
    have h3 := (h.1 k (by omega)).2.1
    unfold gdH
    omega
noncomputable def usC (n : Nat) (f : Nat → ByteArray) (k : Nat) (g : Nat → Int) (m : Nat) (p : Nat → Int) : Int := if gdC n f k g m p = 0 then (if gdH f n = 0 then 3 else 0) else gdC n f k g m p
noncomputable def usA (n : Nat) (f : Nat → ByteArray) (k : Nat) (g : Nat → Int) (m : Nat) (p : Nat → Int) : Int := if usC n f k g m p = 0 then usI g p m / Nh.gc (usI g p m) (gdH f n) else 0
noncomputable def usB (n : Nat) (f : Nat → ByteArray) (k : Nat) (g : Nat → Int) (m : Nat) (p : Nat → Int) : Int := if usC n f k g m p = 0 then gdH f n / Nh.gc (usI g p m) (gdH f n) else 0
def UsAt (n : Nat) (f : Nat → ByteArray) (k : Nat) (g : Nat → Int) (m : Nat) (p : Nat → Int) (w : World) (e : Ending) (w' : World) : Prop := e = .returned (.tuple #[.agg #[.int .i64 (usA n f k g m p), .int .i64 (usB n f k g m p)], .int .i64 (usC n f k g m p)]) ∧ Below w.heap.size w w'
abbrev frC (a b : Int) : Obj := .cells #[.int .i64 a, .int .i64 b] 58
theorem blk2 {w : World} {g : Nat} {t : TypeId} {c0 c1 : Value} (h : w.heap[g]? = some (.cells #[c0, c1] t (0, 0))) : w.cell? ⟨g, 0, none⟩ = some c0 ∧ w.cell? ⟨g, 1, none⟩ = some c1 :=
  ⟨cell_of_row _ _ _ _ _ _ h, cell_of_row _ _ _ _ _ _ h⟩
set_option maxRecDepth 100000 in
set_option maxHeartbeats 2000000 in
theorem spec_us (A : Option Addr) (n c : Nat) (f : Nat → ByteArray) (G : Option Addr) (k gc : Nat) (g : Nat → Int) (P : Option Addr) (m pc : Nat) (p : Nat → Int) (hn : n ≤ 1048576) (hs : ∀ i, i < n → (f i).size ≤ 1048576) (hk : k ≤ 1048576) (hm : m ≤ 1048576) (w : World) (h : H6.Ask w A n f G k g P m p) :
    Calls Try.prog 44 #[.slice A n c, .slice G k gc, .slice P m pc] w (UsAt n f k g m p w) := by
  have HH := Lib.hid h
  have C := Lib.hid (fun w h => good A n c f G k gc g P m pc p hn hs hk hm w h)
  have BX : Hid (Boxd w (w.alloc (frC 0 0)) (frC 0 0)) := Lib.hid ⟨below_box _ _, heap_alloc_new _ _⟩
  have V0 : Hid (¬ gdC n f k g m p = 0 → ∀ W, Below w.heap.size w W → UsAt n f k g m p w (.returned (.tuple #[.agg #[.int .i64 0, .int .i64 0], .int .i64 (gdC n f k g m p)])) W) := Lib.hid fun h W hb => by
    have e : usC n f k g m p = gdC n f k g m p := by unfold usC; rw [if_neg h]
    refine ⟨?_, hb⟩
    unfold usA usB
    rw [e, if_neg h, if_neg h]
  have V1 : Hid (gdC n f k g m p = 0 → gdH f n = 0 → ∀ W, Below w.heap.size w W → UsAt n f k g m p w (.returned (.tuple #[.agg #[.int .i64 0, .int .i64 0], .int .i64 3])) W) := Lib.hid fun h h1 W hb => by
    have e : usC n f k g m p = 3 := by unfold usC; rw [if_pos h, if_pos h1]
    refine ⟨?_, hb⟩
    unfold usA usB
    rw [e]
    rfl
  have V2 : Hid (gdC n f k g m p = 0 → ¬ gdH f n = 0 → ∀ W, Below w.heap.size w W → UsAt n f k g m p w (.returned (.tuple #[.agg #[.int .i64 (usI g p m / Nh.gc (usI g p m) (gdH f n)), .int .i64 (gdH f n / Nh.gc (usI g p m) (gdH f n))], .int .i64 0])) W) := Lib.hid fun h h1 W hb => by
    have e : usC n f k g m p = 0 := by unfold usC; rw [if_pos h, if_neg h1]
    refine ⟨?_, hb⟩
    unfold usA usB
    rw [if_pos e, if_pos e, e]
  have OK : Hid (gdC n f k g m p = 0 → HideP n f ∧ CutsP k g ∧ m = k) := Lib.hid fun h => by
    obtain ⟨h1, h2, h3, h4⟩ := plc_ok (gd_ok h).1
    exact ⟨h1, h2, h4⟩
  clear h
  generalize UsAt n f k g m p w = Q at V0 V1 V2 ⊢
  generalize gdC n f k g m p = cd at C V0 V1 V2 OK
  go_enter Try.func44, Try.ntmps44
  go_upto_region 1 with fail
  generalize hw9 : w.alloc _ = w0 at BX ⊢
  clear hw9
  have D := Lib.hid (C.out w0 (HH.out.below BX.out.bel))
  clear C
  go_wp2_with fail
  refine D.out.mono ?_
  rintro e w1 ⟨rfl, b1⟩
  have BX1 := Lib.hid (BX.out.below b1)
  clear b1 D BX
  by_cases h0 : cd = 0
  rotate_left
  · have hne : (cd != 0) = true := by simpa using h0
    have HF := Lib.hid (V0.out h0 _ ((BX1.out.bel.setCell (p := ⟨w.heap.size, 0, none⟩) (Nat.le_refl _) (.int .i64 0)).setCell (p := ⟨w.heap.size, 1, none⟩) (Nat.le_refl _) (.int .i64 0)))
    have hfr := blk_free BX1.out.box
    obtain ⟨z0, z1⟩ := blk2 BX1.out.box
    clear V0 V1 V2 OK
    go_wp2_with fail
    exact bodyPost_ret (v := .tuple #[.agg #[.int .i64 0, .int .i64 0], .int .i64 cd]) (by simp [results, Try.results44, go_sem, z0, z1]) rfl HF.out
  subst h0
  obtain ⟨hH, hC, hmk⟩ := OK.out rfl
  have X1 := Lib.hid (V1.out rfl)
  have X2 := Lib.hid (V2.out rfl)
  have hk4 := hC.2
  have hm4 : m ≤ 4 := by omega
  have hmk' : m ≤ k := by omega
  have hn6 := hH.2
  have U0 : Hid (usI g p 0 = 0) := Lib.hid rfl
  have UY : Hid (∀ j, 0 ≤ p j → usI g p (j + 1) = usI g p j + g (j * 4) * g (j * 4 + 1)) := Lib.hid fun j h => by
    show usI g p j + (if 0 ≤ p j then g (j * 4) * g (j * 4 + 1) else 0) = _
    rw [if_pos h]
  have UN : Hid (∀ j, p j < 0 → usI g p (j + 1) = usI g p j) := Lib.hid fun j h => by
    show usI g p j + (if 0 ≤ p j then g (j * 4) * g (j * 4 + 1) else 0) = _
    rw [if_neg (by omega)]; omega
  have UI := Lib.hid (fun j (hj : j ≤ m) => us_in (p := p) hC (show j ≤ k by omega))
  have GI := Lib.hid (fun j (hj : j < k) => prod_in (cu_in (hC.1 j hj)).1 (cu_in (hC.1 j hj)).2.1)
  have T0 : Hid (gdH f 0 = 0) := Lib.hid rfl
  have TS : Hid (∀ j, gdH f (j + 1) = gdH f j + gdR (f j) (f j).size) := Lib.hid fun j => rfl
  have TI := Lib.hid (fun j (hj : j ≤ n) => gdh_in hH hj)
  have RI := Lib.hid (fun s j => gdr_in s j)
  have RS : Hid (∀ s (j : Nat), gdR s (j + 1) = gdR s j + if 0 < qI (byt s j) then 1 else 0) := Lib.hid fun s j => rfl
  have R0 : Hid (∀ s, gdR s 0 = 0) := Lib.hid fun s => rfl
  have HZ := Lib.hid (fun j (hj : j < n) => (hH.1 j hj).2.1)
  have CM : Hid (0 ≤ usI g p m → ¬ gdH f n = 0 → 0 ≤ gdH f n → usI g p m ≤ 1000 → gdH f n ≤ 1000 → ∀ w, Calls Try.prog 83 #[.int .i64 (usI g p m), .int .i64 (gdH f n)] w fun e w' => e = .returned (.agg #[.int .i64 (usI g p m / Nh.gc (usI g p m) (gdH f n)), .int .i64 (gdH f n / Nh.gc (usI g p m) (gdH f n))]) ∧ Below w.heap.size w w') := Lib.hid fun h1 h2 h3 h4 h5 w => Fr.make_any _ _ h1 (by omega) (by omega) (by omega) w
  clear V0 V1 V2 OK hH hC hmk
  generalize usI g p m / Nh.gc (usI g p m) (gdH f n) = fa at X2 CM
  generalize gdH f n / Nh.gc (usI g p m) (gdH f n) = fb at X2 CM
  generalize usI g p = S at *
  generalize gdH f = T at *
  generalize gdR = R at *
  go_wp2_with fail
  go_loopw [9, 10] (fun u i wr => ∃ j : Nat, j ≤ m ∧ u = .int .i64 (S j) ∧ i = .int .i64 (j : Int) ∧ Hid (Boxd w wr (frC 0 0))) (fun _ i _ => m - (intOf i).toNat)
  case atStart => exact ⟨0, Nat.zero_le _, by rw [U0.out], rfl, BX1⟩
  case round =>
    obtain ⟨j, hj, rfl, rfl, HB⟩ := hrel
    have e0 : (0 : Int) ≤ (j : Int) := Int.natCast_nonneg _
    by_cases hlt : j < m
    · have e1 : (j : Int) < (m : Int) := by omega
      have e2 : (j : Int) < (k : Int) := by omega
      have HA := HH.out.below HB.out.bel
      obtain ⟨b, off, rfl, hb, hc⟩ := HA.plan (by omega)
      obtain ⟨b2, o2, rfl, hb2, hc2⟩ := HA.cuts (by omega)
      have x0 := hc j hlt
      have hjk : j < k := by omega
      obtain ⟨y0, y1, y2, y3⟩ := Cut.cells_at hc2 hjk
      have w1 := UI.out j hj
      have w2 := GI.out j hjk
      have HY := Lib.hid (UY.out j)
      have HN := Lib.hid (UN.out j)
      have hj1 : j + 1 ≤ m := by omega
      have HD := Lib.hid (fun q => HB.out.drewN q)
      generalize g (j * 4) = ga at y0 w2 HY
      generalize g (j * 4 + 1) = gb at y1 w2 HY
      generalize hpr : ga * gb = pr at w2 HY
      generalize hS1 : S (j + 1) = s1 at HY HN
      generalize S j = s0 at w1 HY HN ⊢
      generalize p j = pj at x0 HY HN
      have t1 : IntKind.i64.wrap (ga * gb) = pr := by rw [hpr]; exact IntWalk.i64_in _ (by omega)
      have t2 : IntKind.i64.wrap (s0 + pr) = s0 + pr := IntWalk.i64_in _ (by omega)
      clear hc hc2 y2 y3 HA hpr
      by_cases hp : 0 ≤ pj
      · have HE := Lib.hid (HY.out hp)
        go_upto_region 9 with fail
        go_quiet (fail)
        have HF := Lib.hid (HD.out nq)
        go_wp2_with fail
        go_roundw
        case rel => exact ⟨j + 1, hj1, by rw [hS1, HE.out], by go_num, HF⟩
        case measure => simp [intOf]; omega
      · have HE := Lib.hid (HN.out (by omega))
        go_wp2_with fail
        go_roundw
        case rel => exact ⟨j + 1, hj1, by rw [hS1, HE.out], by go_num, HB⟩
        case measure => simp [intOf]; omega
    · obtain rfl : j = m := by omega
      have e1 : ¬ (j : Int) < (j : Int) := by omega
      have sj := UI.out j (Nat.le_refl _)
      clear hj UY UN GI UI U0
      generalize S j = sm at *
      go_wp2_with fail
      go_loopw [11, 12, 13] (fun gd y _ wr => ∃ i : Nat, i ≤ n ∧ gd = .int .i64 (T i) ∧ y = .int .i64 (i : Int) ∧ Hid (Boxd w wr (frC 0 0))) (fun _ y _ _ => n - (intOf y).toNat)
      case atStart => exact ⟨0, Nat.zero_le _, by rw [T0.out], rfl, HB⟩
      case round =>
        obtain ⟨i, hi, rfl, rfl, HV⟩ := hrel
        have f0 : (0 : Int) ≤ (i : Int) := Int.natCast_nonneg _
        by_cases hil : i < n
        · have f1 : (i : Int) < (n : Int) := by omega
          obtain ⟨b, off, rfl, hb, hc⟩ := (HH.out.below HV.out.bel).rows (by omega)
          have x0 := hc i hil
          have ti := TI.out i hi
          have HTi := Lib.hid (TS.out i)
          have hz := HZ.out i hil
          have RIi := Lib.hid (fun q => RI.out (f i) q)
          have RSi := Lib.hid (fun q => RS.out (f i) q)
          have R0i := Lib.hid (R0.out (f i))
          have hi1 : i + 1 ≤ n := by omega
          generalize hT1 : T (i + 1) = t1 at HTi
          generalize T i = t0 at ti HTi ⊢
          generalize f i = s at x0 hz RIi RSi R0i HTi
          generalize R s = RR at RIi RSi R0i HTi
          have HT0 : Hid (t0 = t0 + RR 0) := Lib.hid (by rw [R0i.out]; omega)
          clear hc
          go_wp2_with fail
          go_loop [11, 13] (fun gd x => ∃ q : Nat, q ≤ s.size ∧ gd = .int .i64 (t0 + RR q) ∧ x = .int .i64 (q : Int)) (fun _ x => s.size - (intOf x).toNat)
          case atStart => exact ⟨0, Nat.zero_le _, by rw [← HT0.out], rfl⟩
          case round =>
            obtain ⟨q, hq, rfl, rfl⟩ := hrel
            have g0 : (0 : Int) ≤ (q : Int) := Int.natCast_nonneg _
            by_cases hql : q < s.size
            · have g1 : (q : Int) < (s.size : Int) := by omega
              have HBq := Lib.hid (byt_of s q hql)
              have CQ := Lib.hid (fun w => He.spec_q ((s[q]'hql).toNat : Int) w)
              have HRq : Hid (RR (q + 1) = RR q + if 0 < qI ((s[q]'hql).toNat : Int) then 1 else 0) := Lib.hid (by rw [RSi.out, HBq.out])
              have rq := RIi.out q
              have hq1 : q + 1 ≤ s.size := by omega
              generalize qI ((s[q]'hql).toNat : Int) = v at CQ HRq
              generalize hr1 : RR (q + 1) = r1 at HRq
              generalize RR q = r0 at rq HRq ⊢
              by_cases hv : 0 < v
              · have HE : Hid (t0 + r1 = t0 + r0 + 1) := Lib.hid (by rw [HRq.out, if_pos hv]; omega)
                go_wp2_with (go_at_call 63; refine (CQ.out _).mono ?_; rintro e w' ⟨rfl, rfl⟩)
                go_round
                case rel => exact ⟨q + 1, hq1, by rw [hr1, HE.out], by go_num⟩
                case measure => simp [intOf]; omega
              · have HE : Hid (t0 + r1 = t0 + r0) := Lib.hid (by rw [HRq.out, if_neg hv]; omega)
                go_wp2_with (go_at_call 63; refine (CQ.out _).mono ?_; rintro e w' ⟨rfl, rfl⟩)
                go_round
                case rel => exact ⟨q + 1, hq1, by rw [hr1, HE.out], by go_num⟩
                case measure => simp [intOf]; omega
            · obtain rfl : q = s.size := by omega
              have g1 : ¬ (s.size : Int) < (s.size : Int) := by omega
              clear RIi RSi R0i HT0
              go_wp2_with fail
              go_roundw
              case rel => exact ⟨i + 1, hi1, by rw [hT1, HTi.out], by go_num, HV⟩
              case measure => simp [intOf]; omega
        · obtain rfl : i = n := by omega
          have f1 : ¬ (i : Int) < (i : Int) := by omega
          have ti := TI.out i (Nat.le_refl _)
          clear hi TI TS RI RS R0 HZ T0
          by_cases hz : T i = 0
          · have HF := Lib.hid (X1.out hz _ ((HV.out.bel.setCell (p := ⟨w.heap.size, 0, none⟩) (Nat.le_refl _) (.int .i64 0)).setCell (p := ⟨w.heap.size, 1, none⟩) (Nat.le_refl _) (.int .i64 0)))
            have hfr := blk_free HV.out.box
            obtain ⟨z0, z1⟩ := blk2 HV.out.box
            have hz' : (T i == 0) = true := by simpa using hz
            clear X1 X2 CM
            rw [hz]
            go_wp2_with fail
            exact bodyPost_ret (v := .tuple #[.agg #[.int .i64 0, .int .i64 0], .int .i64 3]) (by simp [results, Try.results44, go_sem, z0, z1]) rfl HF.out
          · have CMM := Lib.hid (CM.out (by omega) hz (by omega) (by omega) (by omega))
            have XX := Lib.hid (X2.out hz)
            have hz' : (T i == 0) = false := by simpa using hz
            clear X1 X2 CM
            generalize T i = tn at *
            go_wp2_with fail
            refine (CMM.out _).mono ?_
            rintro e w5 ⟨rfl, b5⟩
            have HV5 := Lib.hid (HV.out.below b5)
            clear b5
            have HF := Lib.hid (XX.out _ ((HV5.out.bel.setCell (p := ⟨w.heap.size, 0, none⟩) (Nat.le_refl _) (.int .i64 fa)).setCell (p := ⟨w.heap.size, 1, none⟩) (Nat.le_refl _) (.int .i64 fb)))
            have hfr := blk_free HV5.out.box
            obtain ⟨z0, z1⟩ := blk2 HV5.out.box
            clear XX CMM
            go_wp2_with fail
            exact bodyPost_ret (v := .tuple #[.agg #[.int .i64 fa, .int .i64 fb], .int .i64 0]) (by simp [results, Try.results44, go_sem, z0, z1]) rfl HF.out
end Go.Proofs.Ytongfgikkcieaaa.H8
