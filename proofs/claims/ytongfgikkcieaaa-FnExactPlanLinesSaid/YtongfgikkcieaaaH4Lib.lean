/- Hides: the spec's PlacesOf, LargestCut. -/
import Derived.Test.YtongfgikkcieaaaH3Lib
namespace Go.Proofs.Ytongfgikkcieaaa.H4
set_option linter.unusedVariables false
open Go.RowKit Ft Is Ge Qb Hd Ts H2 H3
open Go.Proofs.Ytongfgikkcieaaa.Nm (byt byt_of)

/-- What PlacesOf tells. -/
noncomputable def psL (n : Nat) (f : Nat → ByteArray) (a b q d : Int) : List Int := if tv (HideP n f) = true then (if cuB a b q d = true then plL n f a b q else []) else []
noncomputable def psC (n : Nat) (f : Nat → ByteArray) (a b q d : Int) : Int := if tv (HideP n f) = true then (if cuB a b q d = true then 0 else 1) else 1
theorem ps_len (n : Nat) (f : Nat → ByteArray) (a b q d : Int) : (psL n f a b q d).length ≤ 1048576 := by
  unfold psL
  split
  · rename_i h
    split
    · have := pl_len (tv_iff.1 h) a b q; omega
    · simp
  · simp
theorem own_list {w' : World} {B : Nat} {v : Value} {l : List Int} (h : w'.ownsRow B 2 1 v l.length (cel l)) : ∃ A cap, v = .slice A l.length cap ∧ Own w' B A l.length (ix l) := Ow.own_of_row (by rw [← cel_upto]; exact h)
theorem pair_list {w w1 w' : World} {v : Value} {l : List Int} {c : Int} (h : w'.ownsRow w1.heap.size 2 1 v l.length (cel l)) (h0 : Below w.heap.size w w1) (hb : Below w1.heap.size w1 w') : Ow.PairAt l.length (ix l) c w (.returned (.tuple #[v, .int .i64 c])) w' := by
  obtain ⟨A, cap, rfl, ho⟩ := own_list h
  exact ⟨A, cap, rfl, Lib.hid (Bw.own_later ho h0.size), below_then h0 hb⟩
theorem own_sl {w : World} {base : Nat} {e : TypeId} {size n : Nat} {v : Value} {xs : List Value} (h : w.ownsRow base e size v n xs) : ∃ a c, v = .slice a n c := by
  rcases h.2 with ⟨rfl, rfl⟩ | ⟨g, cap, cur, rfl, _⟩
  · exact ⟨_, _, rfl⟩
  · exact ⟨_, _, rfl⟩
set_option maxRecDepth 100000 in
set_option maxHeartbeats 1000000 in
theorem spec_po (A : Option Addr) (n c : Nat) (f : Nat → ByteArray) (a b q d : Int) (hn : n ≤ 1048576) (hs : ∀ i, i < n → (f i).size ≤ 1048576) (w : World) (hA : Txts w w.heap.size A n f) :
    Calls Try.prog 27 #[.slice A n c, cuV a b q d] w (Ow.PairAt (psL n f a b q d).length (ix (psL n f a b q d)) (psC n f a b q d) w) := by
  have HA := Lib.hid hA
  have BX := Lib.hid (below_box w (cuC a b q d))
  have KX := Lib.hid (heap_alloc_new w (cuC a b q d))
  have C0 := Lib.hid (fun w hA => He.spec_ok A n c f hn hs w hA)
  have C1 := Lib.hid (fun w => one a b q d w)
  have C2 : Hid (tv (HideP n f) = true → cuB a b q d = true → ∀ w, Txts w w.heap.size A n f → Calls Try.prog 68 #[.slice A n c, cuV a b q d] w (ListAt (psL n f a b q d) w)) := Lib.hid fun h1 h2 w hA => by
    have e : psL n f a b q d = plL n f a b q := by unfold psL; rw [h1, h2]; rfl
    rw [e]
    exact places A n c f a b q d (tv_iff.1 h1) (cu_in h2).1 (cu_in h2).2.1 w hA
  have V0 : Hid (tv (HideP n f) = false → ∀ W, Below w.heap.size w W → Ow.PairAt (psL n f a b q d).length (ix (psL n f a b q d)) (psC n f a b q d) w (.returned (.tuple #[.slice none 0 0, .int .i64 1])) W) := Lib.hid fun h W hb => by
    have e : psL n f a b q d = [] ∧ psC n f a b q d = 1 := by unfold psL psC; rw [h]; simp
    rw [e.1, e.2]; exact Ow.pair_no hb _
  have V1 : Hid (cuB a b q d = false → ∀ W, Below w.heap.size w W → Ow.PairAt (psL n f a b q d).length (ix (psL n f a b q d)) (psC n f a b q d) w (.returned (.tuple #[.slice none 0 0, .int .i64 1])) W) := Lib.hid fun h W hb => by
    have e : psL n f a b q d = [] ∧ psC n f a b q d = 1 := by unfold psL psC; rw [h]; simp
    rw [e.1, e.2]; exact Ow.pair_no hb _
  have V2 : Hid (tv (HideP n f) = true → cuB a b q d = true → ∀ w1 w' v, w'.ownsRow w1.heap.size 2 1 v (psL n f a b q d).length (cel (psL n f a b q d)) → Below w.heap.size w w1 → Below w1.heap.size w1 w' → Ow.PairAt (psL n f a b q d).length (ix (psL n f a b q d)) (psC n f a b q d) w (.returned (.tuple #[v, .int .i64 0])) w') := Lib.hid fun h1 h2 w1 w' v h3 h4 h5 => by
    have e : psC n f a b q d = 0 := by unfold psC; rw [h1, h2]; rfl
    rw [e]; exact pair_list h3 h4 h5
  clear hA
  generalize Ow.PairAt (psL n f a b q d).length (ix (psL n f a b q d)) (psC n f a b q d) w = Q at V0 V1 V2 ⊢
  generalize psL n f a b q d = l at C2 V2
  generalize tv (HideP n f) = r0 at C0 C2 V0 V2
  generalize cuB a b q d = r1 at C1 C2 V1 V2
  unfold cuV cuC at *
  go_enter Try.func27, Try.ntmps27
  go_upto_region 1 with fail
  generalize hw9 : w.alloc _ = w0 at BX KX ⊢
  clear hw9
  have D0 := Lib.hid (C0.out w0 ((HA.out.below BX.out (Nat.le_refl _)).more BX.out.size))
  clear C0
  go_wp2_with fail
  refine D0.out.mono ?_
  rintro e w1 ⟨rfl, b1⟩
  have HB1 := Lib.hid (below_then BX.out b1)
  have KX1 := Lib.hid (blk_keep b1 KX.out)
  clear b1 D0 BX KX
  cases r0
  · have HF := Lib.hid (V0.out rfl _ HB1.out)
    clear V0 V1 V2 C2
    go_wp2_with fail
    exact HF.out
  obtain ⟨k0, k1, k2, k3⟩ := blk4 KX1.out
  have D1 := Lib.hid (C1.out w1)
  clear C1
  go_wp2_with fail
  refine D1.out.mono ?_
  rintro e w2 ⟨rfl, b2⟩
  have HB2 := Lib.hid (below_then HB1.out b2)
  have KX2 := Lib.hid (blk_keep b2 KX1.out)
  clear b2 D1 HB1 KX1 k0 k1 k2 k3
  cases r1
  · have HF := Lib.hid (V1.out rfl _ HB2.out)
    clear V0 V1 V2 C2
    go_wp2_with fail
    exact HF.out
  obtain ⟨k0, k1, k2, k3⟩ := blk4 KX2.out
  have D2 := Lib.hid (C2.out (by first | rfl | trivial) (by first | rfl | trivial) w2 ((HA.out.below HB2.out (Nat.le_refl _)).more HB2.out.size))
  have VV := Lib.hid (V2.out (by first | rfl | trivial) (by first | rfl | trivial))
  clear C2 V0 V1 V2
  go_wp2_with fail
  refine D2.out.mono ?_
  rintro e w3 ⟨v, rfl, hr, b3⟩
  have HF := Lib.hid (VV.out w2 w3 v hr.out HB2.out b3)
  clear VV D2 b3
  go_wp2_with fail
  exact HF.out
/-- The largest rectangle, as it is looked for. -/
def lcStep (p : Nat → Nat → Bool) (s : Nat × Nat) (a b : Nat) : Nat × Nat := if s.1 * s.2 < a * b ∧ p a b = true then (a, b) else s
def lcIn (p : Nat → Nat → Bool) (a : Nat) (s : Nat × Nat) : Nat → Nat × Nat
  | 0 => s
  | k + 1 => lcStep p (lcIn p a s k) a (k + 1)
def lcOut (p : Nat → Nat → Bool) : Nat → Nat × Nat
  | 0 => (0, 0)
  | k + 1 => lcIn p (6 - k) (lcOut p k) 6
theorem lcin_le {p : Nat → Nat → Bool} {a : Nat} {s : Nat × Nat} (ha : a ≤ 6) (hs : s.1 ≤ 6 ∧ s.2 ≤ 6) : ∀ {k : Nat}, k ≤ 6 → (lcIn p a s k).1 ≤ 6 ∧ (lcIn p a s k).2 ≤ 6
  | 0, _ => hs
  | k + 1, h => by
    have := lcin_le (p := p) ha hs (show k ≤ 6 by omega)
    unfold lcIn lcStep
    split
    · exact ⟨ha, by show k + 1 ≤ 6; omega⟩
    · exact this
theorem lcout_le {p : Nat → Nat → Bool} : ∀ {k : Nat}, k ≤ 6 → (lcOut p k).1 ≤ 6 ∧ (lcOut p k).2 ≤ 6
  | 0, _ => ⟨Nat.zero_le _, Nat.zero_le _⟩
  | k + 1, h => lcin_le (by omega) (lcout_le (by omega)) (Nat.le_refl _)
/-- A rectangle of this size fits somewhere. -/
noncomputable def lcP (n : Nat) (f : Nat → ByteArray) (q : Int) (a b : Nat) : Bool := decide (0 < (plL n f a b q).length)
noncomputable def lcC (n : Nat) (f : Nat → ByteArray) (q : Int) : Int := if tv (HideP n f) = true then (if Ba.inB q 1 3 = true then (if (lcOut (lcP n f q) 6).1 = 0 then 3 else 0) else 2) else 1
noncomputable def lcW (n : Nat) (f : Nat → ByteArray) (q : Int) : Int := if lcC n f q = 0 then ((lcOut (lcP n f q) 6).1 : Int) else 0
noncomputable def lcH (n : Nat) (f : Nat → ByteArray) (q : Int) : Int := if lcC n f q = 0 then ((lcOut (lcP n f q) 6).2 : Int) else 0
def LcAt (n : Nat) (f : Nat → ByteArray) (q : Int) (w : World) (e : Ending) (w' : World) : Prop := e = .returned (.tuple #[.int .i64 (lcW n f q), .int .i64 (lcH n f q), .int .i64 (lcC n f q)]) ∧ Below w.heap.size w w'
theorem mul_36 {a b : Nat} (ha : a ≤ 6) (hb : b ≤ 6) : a * b ≤ 36 := Nat.mul_le_mul ha hb
set_option maxRecDepth 100000 in
set_option maxHeartbeats 2000000 in
theorem spec_lc (A : Option Addr) (n c : Nat) (f : Nat → ByteArray) (q : Int) (hn : n ≤ 1048576) (hs : ∀ i, i < n → (f i).size ≤ 1048576) (w : World) (hA : Txts w w.heap.size A n f) :
    Calls Try.prog 34 #[.slice A n c, .int .i64 q] w (LcAt n f q w) := by
  have HA := Lib.hid hA
  have C0 := Lib.hid (He.spec_ok A n c f hn hs w hA)
  have C1 := Lib.hid (fun w => Ba.in_any q 1 3 w)
  have V0 : Hid (tv (HideP n f) = false → ∀ W, Below w.heap.size w W → LcAt n f q w (.returned (.tuple #[.int .i64 0, .int .i64 0, .int .i64 1])) W) := Lib.hid fun h W hb => ⟨by unfold lcW lcH lcC; rw [h]; simp, hb⟩
  have V1 : Hid (tv (HideP n f) = true → Ba.inB q 1 3 = false → ∀ W, Below w.heap.size w W → LcAt n f q w (.returned (.tuple #[.int .i64 0, .int .i64 0, .int .i64 2])) W) := Lib.hid fun h h1 W hb => ⟨by unfold lcW lcH lcC; rw [h, h1]; simp, hb⟩
  have V2 : Hid (tv (HideP n f) = true → Ba.inB q 1 3 = true → (lcOut (lcP n f q) 6).1 = 0 → ∀ W, Below w.heap.size w W → LcAt n f q w (.returned (.tuple #[.int .i64 0, .int .i64 0, .int .i64 3])) W) := Lib.hid fun h h1 h2 W hb => ⟨by unfold lcW lcH lcC; rw [h, h1, h2]; simp, hb⟩
  have V3 : Hid (tv (HideP n f) = true → Ba.inB q 1 3 = true → ¬ (lcOut (lcP n f q) 6).1 = 0 → ∀ W, Below w.heap.size w W → LcAt n f q w (.returned (.tuple #[.int .i64 ((lcOut (lcP n f q) 6).1 : Int), .int .i64 ((lcOut (lcP n f q) 6).2 : Int), .int .i64 0])) W) := Lib.hid fun h h1 h2 W hb => ⟨by unfold lcW lcH lcC; rw [h, h1]; simp [h2], hb⟩
  have C2 : Hid (tv (HideP n f) = true → ∀ a b : Nat, (1 ≤ a ∧ a ≤ 6) → (1 ≤ b ∧ b ≤ 6) → ∀ w, Txts w w.heap.size A n f → Calls Try.prog 68 #[.slice A n c, cuV (a : Int) (b : Int) q 0] w fun e w' => ∃ u ln cp, e = .returned (.slice u ln cp) ∧ decide (0 < ln) = lcP n f q a b ∧ ln ≤ 36 ∧ Below w.heap.size w w') := Lib.hid fun h a b ha hb w hA =>
    (places A n c f a b q 0 (tv_iff.1 h) (by omega) (by omega) w hA).mono fun e w' ⟨v, h1, h2, h3⟩ => by
      obtain ⟨u, cp, rfl⟩ := own_sl h2.out
      exact ⟨u, _, cp, h1, rfl, pl_len (tv_iff.1 h) _ _ _, h3⟩
  clear hA
  generalize LcAt n f q w = Q at V0 V1 V2 V3 ⊢
  generalize lcP n f q = p at V2 V3 C2
  generalize tv (HideP n f) = r0 at C0 C2 V0 V1 V2 V3
  generalize Ba.inB q 1 3 = r1 at C1 V1 V2 V3
  go_enter Try.func34, Try.ntmps34
  go_wp2_with fail
  refine C0.out.mono ?_
  rintro e w1 ⟨rfl, b1⟩
  have HB1 := Lib.hid b1
  clear b1 C0
  cases r0
  · have HF := Lib.hid (V0.out rfl _ HB1.out)
    clear V0 V1 V2 V3 C2
    go_wp2_with fail
    exact bodyPost_ret (v := .tuple #[.int .i64 0, .int .i64 0, .int .i64 1]) (by simp [results, Try.results34, go_sem]) rfl HF.out
  go_wp2_with fail
  refine (C1.out _).mono ?_
  rintro e w' ⟨rfl, rfl⟩
  cases r1
  · have HF := Lib.hid (V1.out (by first | rfl | trivial) rfl _ HB1.out)
    clear V0 V1 V2 V3 C2
    go_wp2_with fail
    exact bodyPost_ret (v := .tuple #[.int .i64 0, .int .i64 0, .int .i64 2]) (by simp [results, Try.results34, go_sem]) rfl HF.out
  have W2 := Lib.hid (V2.out (by first | rfl | trivial) (by first | rfl | trivial))
  have W3 := Lib.hid (V3.out (by first | rfl | trivial) (by first | rfl | trivial))
  have D2 := Lib.hid (C2.out (by first | rfl | trivial))
  have SO : Hid (∀ k, lcOut p (k + 1) = lcIn p (6 - k) (lcOut p k) 6) := Lib.hid fun k => rfl
  have SL : Hid (∀ k, k ≤ 6 → (lcOut p k).1 ≤ 6 ∧ (lcOut p k).2 ≤ 6) := Lib.hid fun k hk => lcout_le hk
  have SI : Hid (∀ i k, i < 6 → k ≤ 6 → (lcIn p (6 - i) (lcOut p i) k).1 ≤ 6 ∧ (lcIn p (6 - i) (lcOut p i) k).2 ≤ 6) := Lib.hid fun i k hi hk => lcin_le (by omega) (lcout_le (by omega)) hk
  have SI0 : Hid (∀ i, lcIn p (6 - i) (lcOut p i) 0 = lcOut p i) := Lib.hid fun i => rfl
  have SI1 : Hid (∀ i k, lcIn p (6 - i) (lcOut p i) (k + 1) = lcStep p (lcIn p (6 - i) (lcOut p i) k) (6 - i) (k + 1)) := Lib.hid fun i k => rfl
  clear V0 V1 V2 V3 C1 C2
  have O0 : Hid (lcOut p 0 = (0, 0)) := Lib.hid rfl
  generalize lcOut p = OT at *
  go_wp2_with fail
  go_loopw [7, 8, 9, 10, 11] (fun bw bh a _ _ wr => ∃ k : Nat, k ≤ 6 ∧ bw = .int .i64 (((OT k).1 : Nat) : Int) ∧ bh = .int .i64 (((OT k).2 : Nat) : Int) ∧ a = .int .i64 (6 - (k : Int)) ∧ Hid (Below w.heap.size w wr)) (fun _ _ a _ _ _ => (intOf a).toNat)
  case atStart => exact ⟨0, by omega, by rw [O0.out]; rfl, by rw [O0.out]; rfl, rfl, HB1⟩
  case round =>
    obtain ⟨k, hk, rfl, rfl, rfl, HB⟩ := hrel
    by_cases hlt : k < 6
    · have g0 : (1 : Int) ≤ 6 - (k : Int) := by omega
      have g1 : (6 - (k : Int)) ≤ 6 := by omega
      have SOk := Lib.hid (SO.out k)
      have SIk := Lib.hid (fun j hj => SI.out k j hlt hj)
      have SI0k := Lib.hid (SI0.out k)
      have SI1k := Lib.hid (SI1.out k)
      obtain ⟨a, ha⟩ : ∃ a : Nat, 6 - k = a := ⟨_, rfl⟩
      have ha1 : 1 ≤ a ∧ a ≤ 6 := by omega
      have hak : (6 - (k : Int)) = (a : Int) := by omega
      rw [ha] at SOk SIk SI0k SI1k
      have HK : Hid ((a : Int) - 1 = 6 - ((k : Int) + 1)) := Lib.hid (by omega)
      have hk1 : k + 1 ≤ 6 := by omega
      rw [hak] at g0 g1 ⊢
      have DA := Lib.hid (fun b hb => D2.out a b ha1 hb)
      generalize hI : lcIn p a (OT k) = IN at SOk SIk SI0k SI1k
      clear hI ha hak hk
      rw [← SI0k.out]
      go_wp2_with fail
      go_loopw [7, 8, 10, 11] (fun bw bh b _ wv => ∃ j : Nat, j ≤ 6 ∧ bw = .int .i64 (((IN j).1 : Nat) : Int) ∧ bh = .int .i64 (((IN j).2 : Nat) : Int) ∧ b = .int .i64 ((j : Int) + 1) ∧ Hid (Below w.heap.size w wv)) (fun _ _ b _ _ => 7 - (intOf b).toNat)
      case atStart => exact ⟨0, by omega, rfl, rfl, rfl, HB⟩
      case round =>
        obtain ⟨j, hj, rfl, rfl, rfl, HV⟩ := hrel
        by_cases hjl : j < 6
        · have q0 : (j : Int) + 1 ≤ 6 := by omega
          have q1 : (0 : Int) ≤ (j : Int) := Int.natCast_nonneg _
          have SJ := Lib.hid (SI1k.out j)
          obtain ⟨s1, s2⟩ := SIk.out j hj
          have hj1 : j + 1 ≤ 6 := by omega
          have D := Lib.hid (DA.out (j + 1) (by omega))
          generalize IN j = st at SJ s1 s2 ⊢
          generalize hINj : IN (j + 1) = st2 at SJ
          obtain ⟨bw, bh⟩ := st
          dsimp only at s1 s2 SJ ⊢
          have m1 := mul_36 s1 s2
          have m2 := mul_36 ha1.2 hj1
          have c1 : ((bw : Int) * (bh : Int)) = ((bw * bh : Nat) : Int) := (Int.natCast_mul _ _).symm
          have c2 : ((a : Int) * ((j : Int) + 1)) = ((a * (j + 1) : Nat) : Int) := by rw [Int.natCast_mul]; rfl
          have d1 : IntKind.i64.wrap ((bw : Int) * (bh : Int)) = ((bw * bh : Nat) : Int) := by rw [c1]; exact IntWalk.i64_in _ (by omega)
          have d2 : IntKind.i64.wrap ((a : Int) * ((j : Int) + 1)) = ((a * (j + 1) : Nat) : Int) := by rw [c2]; exact IntWalk.i64_in _ (by omega)
          have SY : Hid (bw * bh < a * (j + 1) → p a (j + 1) = true → st2 = (a, j + 1)) := Lib.hid fun h1 h2 => by rw [SJ.out]; unfold lcStep; rw [if_pos ⟨h1, h2⟩]
          have SN : Hid (¬ bw * bh < a * (j + 1) ∨ p a (j + 1) = false → st2 = (bw, bh)) := Lib.hid fun h => by
            rw [SJ.out]; unfold lcStep
            rw [if_neg]
            rintro ⟨h1, h2⟩
            rcases h with h | h
            · exact h h1
            · rw [h] at h2; cases h2
          generalize bw * bh = P1 at m1 d1 SY SN
          generalize a * (j + 1) = P2 at m2 d2 SY SN
          have K0 : Hid (∀ W : World, (W.alloc (cuC (a : Int) ((j : Int) + 1) q 0)).heap[W.heap.size]? = some (cuC (a : Int) ((j : Int) + 1) q 0)) := Lib.hid fun W => heap_alloc_new W _
          clear SJ c1 c2
          rw [show (((j + 1 : Nat)) : Int) = (j : Int) + 1 from by omega] at D
          unfold cuC at K0
          unfold cuV at D
          have HJ : Hid ((j : Int) + 1 + 1 = ((j + 1 : Nat) : Int) + 1) := Lib.hid (by omega)
          have BZ := Lib.hid (fun o => below_then HV.out (below_box wr o))
          have KZ := Lib.hid (K0.out wr)
          go_upto_region 14 with fail
          generalize hwx : wr.alloc _ = wx at KZ ⊢
          have BX : Hid (Below w.heap.size w wx) := Lib.hid (by rw [← hwx]; exact BZ.out _)
          clear hwx BZ K0
          have KX := Lib.hid KZ.out
          obtain ⟨k0, k1, k2, k3⟩ := blk4 KX.out
          clear KZ
          by_cases hp : P1 < P2
          · have hp' : (P1 : Int) < (P2 : Int) := by omega
            have D3 := Lib.hid (D.out wx ((HA.out.below BX.out (Nat.le_refl _)).more BX.out.size))
            go_wp2_with fail
            refine D3.out.mono ?_
            rintro e w5 ⟨u, ln, cp, rfl, hl, hl36, b5⟩
            have HB5 := Lib.hid (below_then BX.out b5)
            clear b5 D3 k0 k1 k2 k3 KX BX
            by_cases h0 : 0 < ln
            · have h0' : (0 : Int) < (ln : Int) := by omega
              have HE := Lib.hid (SY.out hp (by rw [← hl]; exact decide_eq_true h0))
              clear SY SN hl
              go_wp2_with fail
              go_roundw
              case rel => exact ⟨j + 1, hj1, by rw [hINj, HE.out], by rw [hINj, HE.out]; rfl, by rw [HJ.out], HB5⟩
              case measure => simp [intOf]; omega
            · have h0' : ¬ (0 : Int) < (ln : Int) := by omega
              have HE := Lib.hid (SN.out (.inr (by rw [← hl]; exact decide_eq_false h0)))
              clear SY SN hl
              go_wp2_with fail
              go_roundw
              case rel => exact ⟨j + 1, hj1, by rw [hINj, HE.out], by rw [hINj, HE.out], by rw [HJ.out], HB5⟩
              case measure => simp [intOf]; omega
          · have hp' : ¬ (P1 : Int) < (P2 : Int) := by omega
            have HE := Lib.hid (SN.out (.inl hp))
            clear SY SN
            go_wp2_with fail
            go_roundw
            case rel => exact ⟨j + 1, hj1, by rw [hINj, HE.out], by rw [hINj, HE.out], by rw [HJ.out], BX⟩
            case measure => simp [intOf]; omega
        · obtain rfl : j = 6 := by omega
          clear DA SIk SI1k
          go_wp2_with fail
          go_roundw
          case rel => exact ⟨k + 1, hk1, by rw [SOk.out], by rw [SOk.out], by rw [HK.out]; rfl, HV⟩
          case measure => simp [intOf]; omega
    · obtain rfl : k = 6 := by omega
      by_cases hz : (OT 6).1 = 0
      · have HF := Lib.hid (W2.out hz _ HB.out)
        rw [hz]
        clear W2 W3
        go_wp2_with fail
        exact bodyPost_ret (v := .tuple #[.int .i64 0, .int .i64 0, .int .i64 3]) (by simp [results, Try.results34, go_sem]) rfl HF.out
      · have HF := Lib.hid (W3.out hz _ HB.out)
        have hz' : ((((OT 6).1 : Nat) : Int) == 0) = false := by rw [beq_eq_false_iff_ne]; omega
        clear W2 W3
        generalize (OT 6).1 = x1 at *
        generalize (OT 6).2 = x2 at *
        go_wp2_with fail
        exact bodyPost_ret (v := .tuple #[.int .i64 (x1 : Int), .int .i64 (x2 : Int), .int .i64 0]) (by simp [results, Try.results34, go_sem]) rfl HF.out
end Go.Proofs.Ytongfgikkcieaaa.H4
