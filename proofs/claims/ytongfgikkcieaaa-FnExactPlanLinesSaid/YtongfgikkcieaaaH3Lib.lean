/- Hides: the spec's: where a piece fits, all its places. -/
import Derived.Test.YtongfgikkcieaaaH2Lib
import Derived.Test.YtongfgikkcieaaaOwLib
namespace Go.Proofs.Ytongfgikkcieaaa.H3
set_option linter.unusedVariables false
open Go.RowKit Ft Is Ge Qb Hd Ts H2
open Go.Proofs.Ytongfgikkcieaaa.Nm (byt byt_of)

abbrev cuC (a b c d : Int) : Obj := .cells #[.int .i64 a, .int .i64 b, .int .i64 c, .int .i64 d] 42
/-- What stays while a piece is looked at: all that lay before, and the piece's box. -/
structure Boxd (w wr : World) (o : Obj) : Prop where
  bel : Below w.heap.size w wr
  box : wr.heap[w.heap.size]? = some o
theorem Boxd.drewN {w wr : World} {o : Obj} (h : Boxd w wr o) (q : Nat) : Boxd w (wr.drewN q) o := ⟨below_then h.bel (He.below_drewN wr q), h.box⟩
theorem Boxd.below {w wr w' : World} {o : Obj} (h : Boxd w wr o) (hb : Below wr.heap.size wr w') : Boxd w w' o := ⟨below_then h.bel hb, blk_keep hb h.box⟩
theorem div_mod {n C t : Nat} (hC : 1 ≤ C) (ht : t < n * C) : t / C < n ∧ t % C < C := ⟨(Nat.div_lt_iff_lt_mul (by omega)).2 ht, Nat.mod_lt _ (by omega)⟩
set_option maxRecDepth 100000 in
set_option maxHeartbeats 2000000 in
theorem fits (A : Option Addr) (n c : Nat) (f : Nat → ByteArray) (a b q d : Int) (t : Nat) (hH : HideP n f) (ha : 1 ≤ a ∧ a ≤ 6) (hb : 1 ≤ b ∧ b ≤ 6) (ht : t < n * (f 0).size) (w : World) (hA : Txts w w.heap.size A n f) :
    Calls Try.prog 97 #[.slice A n c, cuV a b q d, .int .i64 (t : Int)] w fun e w' => e = .returned (.bool (tv (FitP n (f 0).size (qf f) a b q t))) ∧ Below w.heap.size w w' := by
  obtain ⟨W, rfl⟩ : ∃ W : Nat, a = (W : Int) := ⟨a.toNat, by omega⟩
  obtain ⟨H, rfl⟩ : ∃ H : Nat, b = (H : Int) := ⟨b.toNat, by omega⟩
  have hc0 := hH.cols
  have hn := hH.2
  obtain ⟨hr, hcl⟩ := div_mod hc0.1 ht
  have HA := Lib.hid hA
  have NO1 : Hid (¬ ((t / (f 0).size : Nat) : Int) + (H : Int) ≤ (n : Int) → tv (FitP n (f 0).size (qf f) W H q t) = false) := Lib.hid fun h => tv_no fun e => h e.1
  have NO2 : Hid (¬ ((t % (f 0).size : Nat) : Int) + (W : Int) ≤ ((f 0).size : Int) → tv (FitP n (f 0).size (qf f) W H q t) = false) := Lib.hid fun h => tv_no fun e => h e.2.1
  have NO3 : Hid (∀ k m : Nat, k < H → m < W → qf f (t / (f 0).size + k) (t % (f 0).size + m) < q → tv (FitP n (f 0).size (qf f) W H q t) = false) := Lib.hid fun k m h1 h2 h => tv_no fun e => by
    have := e.2.2 k m (by omega) (by omega)
    omega
  have YES : Hid (((t / (f 0).size : Nat) : Int) + (H : Int) ≤ (n : Int) → ((t % (f 0).size : Nat) : Int) + (W : Int) ≤ ((f 0).size : Int) → (∀ k m : Nat, k < H → m < W → q ≤ qf f (t / (f 0).size + k) (t % (f 0).size + m)) → tv (FitP n (f 0).size (qf f) W H q t) = true) := Lib.hid fun h1 h2 h3 => tv_yes ⟨h1, h2, fun y x hy hx => h3 y x (by omega) (by omega)⟩
  have QF : Hid (∀ (k m : Nat) (hk : k < n) (hm : m < (f k).size), qf f k m = qI (((f k)[m]'hm).toNat : Int)) := Lib.hid fun k m hk hm => by unfold qf; rw [byt_of _ _ hm]
  have HS := Lib.hid (fun k (hk : k < n) => (hH.1 k hk).1)
  have D1 : ((t : Int) / ((f 0).size : Int)) = ((t / (f 0).size : Nat) : Int) := by rw [Int.natCast_ediv]
  have D2 : ((t : Int) % ((f 0).size : Int)) = ((t % (f 0).size : Nat) : Int) := by rw [Int.natCast_emod]
  obtain ⟨bk, off, rfl, hbk, hc⟩ := hA (by omega)
  have y0 := hc 0 (by omega)
  rw [Nat.add_zero] at y0
  have HC : Hid (∀ wr, Below w.heap.size w wr → ∀ i, i < n → wr.cell? ⟨bk, off + i, none⟩ = some (.string (f i))) := Lib.hid fun wr hb i hi => (hb.cell (p := ⟨bk, off + i, none⟩) hbk).trans (hc i hi)
  have HC0 : Hid (∀ wr, Below w.heap.size w wr → wr.cell? ⟨bk, off + 0, none⟩ = some (.string (f 0))) := Lib.hid fun wr hb => HC.out wr hb 0 (by omega)
  have e2 : (0 : Int) < (n : Int) := by omega
  have e3 : 0 < n := by omega
  have e4 : (0 : Int) ≤ (t : Int) := Int.natCast_nonneg _
  have BX : Hid (Boxd w (w.alloc (cuC W H q d)) (cuC W H q d)) := Lib.hid ⟨below_box _ _, heap_alloc_new _ _⟩
  have ht2 : t < 36 := by
    have : n * (f 0).size ≤ 6 * 6 := Nat.mul_le_mul (by omega) (by omega)
    omega
  clear hA hc hH ht
  generalize tv (FitP n (f 0).size (qf f) W H q t) = r at NO1 NO2 NO3 YES ⊢
  generalize t / (f 0).size = r0 at NO1 NO2 NO3 YES D1 hr
  generalize t % (f 0).size = c0 at NO1 NO2 NO3 YES D2 hcl
  generalize qf f = qq at NO3 YES QF
  generalize f 0 = z at NO2 YES HS D1 D2 hcl hc0 y0 HC0
  have hk1 : ¬ (z.size : Int) = 0 := by omega
  have hk2 : ¬ (z.size : Int) = -1 := by omega
  have hk0 : ((z.size : Int) == 0) = false := beq_eq_false_iff_ne.2 hk1
  have hk3 : ((z.size : Int) == -1) = false := beq_eq_false_iff_ne.2 hk2
  have hk4 : ¬ z.size = 0 := by omega
  unfold cuV
  go_enter Try.func97, Try.ntmps97
  go_upto_region 4 with fail
  rw [D2]
  generalize hw0 : w.alloc _ = w0 at BX ⊢
  clear hw0 D1 D2 hk0 hk1 hk2 hk3 hk4 y0
  have y0 : w0.cell? ⟨bk, off, none⟩ = some (.string z) := by rw [← Nat.add_zero off]; exact HC0.out w0 BX.out.bel
  obtain ⟨k0, k1, k2, k3⟩ := blk4 BX.out.box
  by_cases h1 : (n : Int) < (r0 : Int) + (H : Int)
  · have HF := Lib.hid (NO1.out (by omega))
    go_wp2_with fail
    go_ret
    exact ⟨Ba.ret_bool HF.out.symm, BX.out.bel⟩
  by_cases h2 : (z.size : Int) < (c0 : Int) + (W : Int)
  · have HF := Lib.hid (NO2.out (by omega))
    go_wp2_with fail
    go_ret
    exact ⟨Ba.ret_bool HF.out.symm, BX.out.bel⟩
  have YES := Lib.hid (YES.out (by omega) (by omega))
  have CQ := Lib.hid (fun c w => He.spec_q c w)
  clear NO1 NO2
  go_wp2_with fail
  clear k0 k1 k2 k3 y0
  go_loopw [10, 11] (fun y _ wr => ∃ k : Nat, k ≤ H ∧ y = .int .i64 ((r0 + k : Nat) : Int) ∧ Hid (Boxd w wr (cuC W H q d)) ∧ Hid (∀ j m : Nat, j < k → m < W → q ≤ qq (r0 + j) (c0 + m))) (fun y _ _ => r0 + H - (intOf y).toNat)
  case atStart => exact ⟨0, Nat.zero_le _, by rw [Nat.add_zero], BX, Lib.hid fun j m hj => by omega⟩
  case round =>
    obtain ⟨k, hk, rfl, HX, HR⟩ := hrel
    obtain ⟨k0, k1, k2, k3⟩ := blk4 HX.out.box
    have f0 : (0 : Int) ≤ ((r0 + k : Nat) : Int) := Int.natCast_nonneg _
    by_cases hlt : k < H
    · have hy : r0 + k < n := by omega
      have g1 : ((r0 + k : Nat) : Int) < (r0 : Int) + (H : Int) := by omega
      have g2 : ((r0 + k : Nat) : Int) < (n : Int) := by omega
      have hk1 : k + 1 ≤ H := by omega
      have hsz := Lib.hid (HS.out (r0 + k) hy)
      have NOk := Lib.hid (fun m hm h => NO3.out k m hlt hm h)
      have HRk : Hid ((∀ m, m < W → q ≤ qq (r0 + k) (c0 + m)) → ∀ j m : Nat, j < k + 1 → m < W → q ≤ qq (r0 + j) (c0 + m)) := Lib.hid fun h j m hj hm => by
        by_cases e : j = k
        · subst e; exact h m hm
        · exact HR.out j m (by omega) hm
      have QFk := Lib.hid (fun m hm => QF.out (r0 + k) m hy hm)
      have HCk := Lib.hid (fun wv hb => HC.out wv hb (r0 + k) hy)
      have hyn : ((r0 + k : Nat) : Int) + 1 = ((r0 + (k + 1) : Nat) : Int) := by omega
      have HYN := Lib.hid hyn
      have hme : (r0 + H - (r0 + (k + 1))) < (r0 + H - (r0 + k)) := by omega
      have HME := Lib.hid hme
      clear hyn hme
      generalize f (r0 + k) = s at hsz QFk HCk
      generalize qq (r0 + k) = qy at NOk HRk QFk
      generalize r0 + k = yy at hy g1 g2 f0 HYN HME HCk ⊢
      go_wp2_with fail
      clear k0 k1 k2 k3
      go_loopw [11] (fun x wv => ∃ m : Nat, m ≤ W ∧ x = .int .i64 ((c0 + m : Nat) : Int) ∧ Hid (Boxd w wv (cuC W H q d)) ∧ Hid (∀ j, j < m → q ≤ qy (c0 + j))) (fun x _ => c0 + W - (intOf x).toNat)
      case atStart => exact ⟨0, Nat.zero_le _, by rw [Nat.add_zero], HX, Lib.hid fun j hj => by omega⟩
      case round =>
        obtain ⟨m, hm, rfl, HV, HM⟩ := hrel
        obtain ⟨k0, k1, k2, k3⟩ := blk4 HV.out.box
        have j0 : (0 : Int) ≤ ((c0 + m : Nat) : Int) := Int.natCast_nonneg _
        by_cases hml : m < W
        · have hxs : c0 + m < s.size := by rw [hsz.out]; omega
          have j1 : ((c0 + m : Nat) : Int) < (s.size : Int) := by omega
          have j2 : ((c0 + m : Nat) : Int) < (c0 : Int) + (W : Int) := by omega
          have hm1 : m + 1 ≤ W := by omega
          have x0 := HCk.out _ HV.out.bel
          have QFm := QFk.out (c0 + m) hxs
          have NOm := Lib.hid (NOk.out m hml)
          have HM2 : Hid (q ≤ qy (c0 + m) → ∀ j, j < m + 1 → q ≤ qy (c0 + j)) := Lib.hid fun h j hj => by
            by_cases e : j = m
            · subst e; exact h
            · exact HM.out j (by omega)
          have HVQ := Lib.hid (fun p => HV.out.drewN p)
          have HXN : Hid (((c0 + m : Nat) : Int) + 1 = ((c0 + (m + 1) : Nat) : Int)) := Lib.hid (by omega)
          have HMM : Hid ((c0 + W - (c0 + (m + 1))) < (c0 + W - (c0 + m))) := Lib.hid (by omega)
          rw [QFm] at NOm HM2
          have C := Lib.hid (fun w => CQ.out ((s[c0 + m]'hxs).toNat : Int) w)
          clear QFm
          generalize c0 + m = xx at hxs j0 j1 j2 NOm HM2 C HXN HMM ⊢
          generalize qI ((s[xx]'hxs).toNat : Int) = v at NOm HM2 C
          by_cases hv : v < q
          · have HF := Lib.hid (NOm.out hv)
            go_upto_region 12 with fail
            go_quiet ((go_at_call 63; with_reducible exact Calls.quiet_of_same ((C.out _).mono fun _ _ h => ⟨h.1, h.2.symm⟩)))
            have HB := Lib.hid (HVQ.out nq).bel
            go_wp2_with fail
            go_ret
            exact ⟨Ba.ret_bool HF.out.symm, HB.out⟩
          · have HM3 := Lib.hid (HM2.out (by omega))
            go_upto_region 12 with fail
            go_quiet ((go_at_call 63; with_reducible exact Calls.quiet_of_same ((C.out _).mono fun _ _ h => ⟨h.1, h.2.symm⟩)))
            have HB := Lib.hid (HVQ.out nq)
            go_wp2_with fail
            go_roundw
            case rel => exact ⟨m + 1, hm1, by rw [HXN.out], HB, HM3⟩
            case measure => simp [intOf]; have := HMM.out; have := HXN.out; omega
        · obtain rfl : m = W := by omega
          have j2 : ¬ ((c0 + m : Nat) : Int) < (c0 : Int) + (m : Int) := by omega
          have HR2 := Lib.hid (HRk.out HM.out)
          clear HRk HM
          go_wp2_with fail
          go_roundw
          case rel => exact ⟨k + 1, hk1, by rw [HYN.out], HV, HR2⟩
          case measure => simp [intOf]; have := HME.out; have := HYN.out; omega
    · obtain rfl : k = H := by omega
      have g1 : ¬ ((r0 + k : Nat) : Int) < (r0 : Int) + (k : Int) := by omega
      have HF := Lib.hid (YES.out HR.out)
      go_wp2_with fail
      go_ret
      exact ⟨Ba.ret_bool HF.out.symm, HX.out.bel⟩
/-- All places of a piece. -/
noncomputable def plL (n : Nat) (f : Nat → ByteArray) (a b q : Int) : List Int := flt (fun t => tv (FitP n (f 0).size (qf f) a b q t)) (n * (f 0).size)
theorem pl_len {n : Nat} {f : Nat → ByteArray} (hH : HideP n f) (a b q : Int) : (plL n f a b q).length ≤ 36 := by
  have h1 := flt_le (fun t => tv (FitP n (f 0).size (qf f) a b q t)) (n * (f 0).size)
  have h2 : n * (f 0).size ≤ 6 * 6 := Nat.mul_le_mul hH.2.2 hH.cols.2
  unfold plL
  omega
/-- A new list of numbers. -/
def ListAt (l : List Int) (w : World) (e : Ending) (w' : World) : Prop := ∃ v, e = .returned v ∧ Hid (w'.ownsRow w.heap.size 2 1 v l.length (cel l)) ∧ Below w.heap.size w w'
theorem row_later {w' : World} {B B' n : Nat} {e : TypeId} {z : Nat} {v : Value} {l : List Value} (h : w'.ownsRow B' e z v n l) (hs : B ≤ B') : w'.ownsRow B e z v n l :=
  ⟨h.1, by
    rcases h.2 with h0 | ⟨g, cap, cur, hv, hbg, hh, r⟩
    · exact .inl h0
    · exact .inr ⟨g, cap, cur, hv, by omega, hh, r⟩⟩
set_option maxRecDepth 100000 in
set_option maxHeartbeats 2000000 in
theorem places (A : Option Addr) (n c : Nat) (f : Nat → ByteArray) (a b q d : Int) (hH : HideP n f) (ha : 1 ≤ a ∧ a ≤ 6) (hb : 1 ≤ b ∧ b ≤ 6) (w : World) (hA : Txts w w.heap.size A n f) :
    Calls Try.prog 68 #[.slice A n c, cuV a b q d] w (ListAt (plL n f a b q) w) := by
  have hc0 := hH.cols
  have hn := hH.2
  have HA := Lib.hid hA
  have BX := Lib.hid (below_box w (cuC a b q d))
  have KX := Lib.hid (heap_alloc_new w (cuC a b q d))
  have FT := Lib.hid (fun (t : Nat) (ht : t < n * (f 0).size) w hA => fits A n c f a b q d t hH ha hb ht w hA)
  obtain ⟨p, hp⟩ : ∃ p : Nat → Bool, ∀ t, tv (FitP n (f 0).size (qf f) a b q t) = p t := ⟨_, fun t => rfl⟩
  have hpl : plL n f a b q = flt p (n * (f 0).size) := by unfold plL; simp only [hp]
  simp only [hp] at FT
  have h36 : n * (f 0).size ≤ 6 * 6 := Nat.mul_le_mul (by omega) (by omega)
  have HR : Hid (∀ w1 w' v, w'.ownsRow w1.heap.size 2 1 v (flt p (n * (f 0).size)).length (cel (flt p (n * (f 0).size))) → Below w.heap.size w w1 → Below w1.heap.size w1 w' → ListAt (plL n f a b q) w (.returned v) w') := Lib.hid fun w1 w' v h1 h2 h3 => by
    rw [hpl]
    exact ⟨v, rfl, Lib.hid (row_later h1 h2.size), below_then h2 h3⟩
  have HU1 : Hid (∀ k, p k = true → cel (flt p (k + 1)) = cel (flt p k) ++ [.int .i64 (k : Int)] ∧ (flt p (k + 1)).length = (flt p k).length + 1) := Lib.hid fun k h => by rw [flt_yes h, cel_snoc]; exact ⟨rfl, by simp⟩
  have HU0 : Hid (∀ k, p k = false → flt p (k + 1) = flt p k) := Lib.hid fun k h => flt_no h
  have HL := Lib.hid (flt_le p)
  have O0 : Hid (∀ w : World, (w.alloc (.cells #[] 2)).ownsRow w.heap.size 2 1 (.slice (some ⟨w.heap.size, 0, none⟩) 0 0) (flt p 0).length (cel (flt p 0))) := Lib.hid fun w => Ow.row_zero w (fun _ => 0)
  obtain ⟨i0, hi0, hz0, hz1, hz2⟩ := info_parts info_int
  have HIn := Lib.hid (And.intro hi0 (And.intro hz0 (And.intro hz1 hz2)))
  have HC : Hid (∀ wr, Below w.heap.size w wr → ∃ bk off, A = some ⟨bk, off, none⟩ ∧ wr.cell? ⟨bk, off, none⟩ = some (.string (f 0))) := Lib.hid fun wr hb => by
    obtain ⟨bk, off, e, h1, h2⟩ := hA (by omega)
    have := h2 0 (by omega)
    rw [Nat.add_zero] at this
    exact ⟨bk, off, e, (hb.cell (p := ⟨bk, off, none⟩) h1).trans this⟩
  have hprod : (n : Int) * ((f 0).size : Int) = ((n * (f 0).size : Nat) : Int) := (Int.natCast_mul _ _).symm
  have hw0 : IntKind.i64.wrap ((n : Int) * ((f 0).size : Int)) = ((n * (f 0).size : Nat) : Int) := by rw [hprod]; exact IntWalk.i64_in _ (by omega)
  clear hA hi0 hz0 hz1 hz2 hp hpl hH
  generalize ListAt (plL n f a b q) w = Q at HR ⊢
  generalize f 0 = z at *
  generalize n * z.size = N at *
  have e2 : (0 : Int) < (n : Int) := by omega
  have e3 : 0 < n := by omega
  unfold cuV cuC at *
  go_enter Try.func68, Try.ntmps68
  go_upto_region 1 with fail
  generalize hw9 : w.alloc _ = w0 at BX KX ⊢
  clear hw9
  go_wp2_with fail
  have B0 := Lib.hid (below_box w0 (.cells #[] 2))
  have R0 := Lib.hid (O0.out w0)
  clear O0
  go_loopw [5, 6] (fun o i wr => ∃ (k : Nat) (v : Value), k ≤ N ∧ v = o ∧ i = .int .i64 (k : Int) ∧ Hid (Below w0.heap.size w0 wr) ∧ Hid (wr.ownsRow w0.heap.size 2 1 v (flt p k).length (cel (flt p k)))) (fun _ i _ => N - (intOf i).toNat)
  case atStart => exact ⟨0, _, Nat.zero_le _, rfl, rfl, B0, R0⟩
  case round =>
    obtain ⟨k, v, hk, rfl, rfl, HW, HO⟩ := hrel
    have e0 : (0 : Int) ≤ (k : Int) := Int.natCast_nonneg _
    have HBw := Lib.hid (below_then BX.out HW.out)
    obtain ⟨bk, off, rfl, y0⟩ := HC.out wr HBw.out
    obtain ⟨k0, k1, k2, k3⟩ := blk4 (blk_keep HW.out KX.out)
    by_cases hlt : k < N
    · have e1 : (k : Int) < (N : Int) := by omega
      have C := Lib.hid (FT.out k hlt wr ((HA.out.below HBw.out (Nat.le_refl _)).more HBw.out.size))
      have HU1k := Lib.hid (HU1.out k)
      have HU0k := Lib.hid (HU0.out k)
      have HLk := HL.out k
      have hk1 : k + 1 ≤ N := by omega
      generalize p k = pk at C HU1k HU0k
      clear hk
      go_wp2_with fail
      refine C.out.mono ?_
      rintro e w2 ⟨rfl, b2⟩
      have HW2 := Lib.hid (below_then HW.out b2)
      have HO2 := Lib.hid (row_below HO.out b2)
      clear b2 C y0 k0 k1 k2 k3 HO HBw
      cases pk
      · have HE := Lib.hid (HU0k.out rfl)
        go_wp2_with fail
        go_roundw
        case rel => exact ⟨k + 1, _, hk1, rfl, by go_num, HW2, by rw [HE.out]; exact HO2⟩
        case measure => simp [intOf]; omega
      · have HE := Lib.hid (HU1k.out rfl)
        have hsz := HW2.out.size
        generalize hl : (flt p k).length = l at HO2 HE HLk
        generalize hcl : cel (flt p k) = cl at HO2 HE
        go_wp2_with (at_builtin; refine wpList_append_own _ rfl _ _ 39 rfl w0.heap.size 2 i0 _ 1 8 Try.underlying39 HIn.out.1 HIn.out.2.1 HIn.out.2.2.1 HIn.out.2.2.2 rfl (by decide) _ _ _ rfl (HO2.out.alloc _) ⟨w2.heap.size, 0, none⟩ 1 1 [.int .i64 (k : Int)] rfl rfl ?c1 ?c2 ?c3 ?c4 ?c5 ?_)
        case c1 => exact Ow.cell_new _ _ _
        case c2 => simp [Value.oneCell']
        case c3 => unfold maxLen; omega
        case c4 => omega
        case c5 => first | omega | (simp <;> omega)
        intro v' w6 hown2 hgrow _
        have HQ := Lib.hid ((HW2.out.alloc hsz _).grown hgrow (by simp; omega) fun g hg => (HO2.out.lt g hg).1)
        have HO6 : Hid (w6.ownsRow w0.heap.size 2 1 v' (flt p (k + 1)).length (cel (flt p (k + 1)))) := Lib.hid (by rw [HE.out.1, HE.out.2]; exact hown2)
        clear hown2 hgrow
        go_wp2_with fail
        go_roundw
        case rel => exact ⟨k + 1, _, hk1, rfl, by go_num, HQ, HO6⟩
        case measure => simp [intOf]; omega
    · obtain rfl : k = N := by omega
      have e1 : ¬ (k : Int) < (k : Int) := by omega
      have HZ := Lib.hid (HR.out w0 wr v HO.out BX.out HW.out)
      clear hk HR HU1 HU0 FT
      go_wp2_with fail
      exact HZ.out
end Go.Proofs.Ytongfgikkcieaaa.H3
