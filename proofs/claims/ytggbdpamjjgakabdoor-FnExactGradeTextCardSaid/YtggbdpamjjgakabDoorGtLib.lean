/- GradeText: the spec's text, both functions, the walk of the law. -/
import Derived.Test.YtggbdpamjjgakabDoorStxLib
import Derived.Test.YtggbdpamjjgakabDoorDsLib
import Derived.Test.YtggbdpamjjgakabDoorFxLib
import Derived.Test.YtggbdpamjjgakabDoorGaLib
namespace Go.Proofs.YtggbdpamjjgakabDoor.Gt
open Go.RowKit Ba Go.Lib Dc Ds Tb La Qb Ga
set_option linter.unusedVariables false

set_option maxRecDepth 100000 in
set_option maxHeartbeats 2000000 in
theorem spec_core (f : Nat → Int) (Q T : Nat → ByteArray) (D : Hid (∀ k, k < 5 → ∀ w, Calls Tryd.prog 61 #[.int .i64 (f k)] w fun e w' => e = .returned (.string (T k)) ∧ Below w.heap.size w w'))
    (NL : Hid (∀ k, k < 5 → (T k).size ≤ 21)) (PL : Hid (∀ k, k ≤ 5 → (Q k).size ≤ 110)) (P0 : Hid (Q 0 = ⟨#[]⟩)) (P1 : Hid (Q 1 = Q 0 ++ T 0)) (PS : Hid (∀ k, 0 < k → Q (k + 1) = Q k ++ ⟨#[47]⟩ ++ T k)) (w : World) :
    Calls Tryd.prog 56 #[fvV f] w fun e w' => e = .returned (.string (Q 5)) ∧ Below w.heap.size w w' := by
  have C := Lib.hid (fun w => five_any f w)
  unfold fvV at C ⊢
  generalize hg0 : f 0 = g0, f 1 = g1, f 2 = g2, f 3 = g3, f 4 = g4 at C ⊢
  clear hg0
  go_enter Tryd.func56, Tryd.ntmps56
  go_wp2_with fail
  refine (C.out _).mono ?_
  rintro e w1 ⟨a, rfl, ha, hl, b1, hc⟩
  have HB1 := Lib.hid (below_then (below_box w (.cells #[.int .i64 g0, .int .i64 g1, .int .i64 g2, .int .i64 g3, .int .i64 g4] 50)) b1)
  clear b1
  go_wp2_with fail
  go_loopw [4, 5] (fun o i wr => ∃ k : Nat, k ≤ 5 ∧ o = .string (Q k) ∧ i = .int .i64 (k : Int) ∧ Hid (Below w1.heap.size w1 wr)) (fun _ i _ => 5 - (RowKit.intOf i).toNat)
  case atStart => exact ⟨0, Nat.zero_le _, by rw [P0.out], rfl, Lib.hid (Below.refl _ _)⟩
  case round =>
    obtain ⟨k, hk, rfl, rfl, HB⟩ := hrel
    by_cases hlt : k < 5
    · have x0 := (HB.out.cell (p := ⟨a, k, none⟩) hl).trans (hc.out k hlt)
      have DK := Lib.hid (D.out k hlt)
      have nl := NL.out k hlt
      have pl := PL.out k hk
      have e0 : (0 : Int) ≤ (k : Int) := Int.natCast_nonneg _
      have hk5 : (k : Int) < 5 := by omega
      have hnew : Hid (Q (k + 1) = if k = 0 then Q k ++ T k else Q k ++ ⟨#[47]⟩ ++ T k) := Lib.hid (by
        split
        · rename_i h; subst h; exact P1.out
        · exact PS.out k (by omega))
      generalize f k = u at x0 DK
      generalize T k = t at DK nl hnew
      generalize hqn : Q (k + 1) = qn at hnew
      generalize hqk : Q k = q at pl hnew ⊢
      by_cases h0 : k = 0
      · have hE : qn = q ++ t := by rw [hnew.out, if_pos h0]
        have n0 : ¬ 9223372036854775807 < q.size + t.size := by omega
        subst h0
        clear hnew hk
        go_wp2_with fail
        refine (DK.out _).mono ?_
        rintro e w2 ⟨rfl, b2⟩
        have HQ := Lib.hid (below_then HB.out b2)
        clear b2 x0
        go_wp2_with fail
        go_roundw
        case rel => exact ⟨1, by omega, by first | rfl | (rw [hqn, hE]) | (rw [hE]), by first | rfl | go_num, HQ⟩
        case measure => simp [RowKit.intOf] <;> omega
      · have hE : qn = q ++ ⟨#[47]⟩ ++ t := by rw [hnew.out, if_neg h0]
        have hk0 : (0 : Int) < (k : Int) := by omega
        have n0 : ¬ 9223372036854775807 < q.size + 1 := by omega
        have m0 : ¬ 9223372036854775807 ≤ q.size := by omega
        have n1 : ¬ 9223372036854775807 < q.size + 1 + t.size := by omega
        clear hnew hk
        go_wp2_with fail
        refine (DK.out _).mono ?_
        rintro e w2 ⟨rfl, b2⟩
        have HQ := Lib.hid (below_then HB.out b2)
        clear b2 x0
        go_wp2_with fail
        go_roundw
        case rel => exact ⟨k + 1, by omega, by first | rfl | (rw [hqn, hE]) | (rw [hE]), by first | rfl | go_num, HQ⟩
        case measure => simp [RowKit.intOf] <;> omega
    · obtain rfl : k = 5 := by omega
      clear hk hlt D NL PL P0 P1 PS
      go_wp2_with fail
      go_ret
      exact ⟨rfl, below_then HB1.out HB.out⟩
set_option maxHeartbeats 1000000 in
theorem spec_tx (f : Nat → Int) (hf : ∀ k, k < 5 → -20000 ≤ f k ∧ f k ≤ 20000) (w : World) : Calls Tryd.prog 56 #[fvV f] w fun e w' => e = .returned (.string ⟨(Stx.tx [47] f 5).toArray⟩) ∧ Below w.heap.size w w' :=
  spec_core f (fun k => ⟨(Stx.tx [47] f k).toArray⟩) (fun k => ⟨(itoa (f k)).toArray⟩)
    (Lib.hid fun k hk w => dec_any (f k) (by have := hf k hk; omega) (by have := hf k hk; omega) w)
    (Lib.hid fun k hk => Stx.dec_len _ (hf k hk).1 (hf k hk).2)
    (Lib.hid fun k hk => by have := Stx.tx_len (sp := [47]) rfl hf k hk; show (Stx.tx [47] f k).length ≤ _; omega)
    (Lib.hid rfl)
    (Lib.hid (by show (⟨(Stx.tx [47] f 1).toArray⟩ : ByteArray) = ⟨(Stx.tx [47] f 0).toArray⟩ ++ ⟨(itoa (f 0)).toArray⟩; rw [Fx.app_eq]; rfl))
    (Lib.hid fun k h0 => by
      show (⟨(Stx.tx [47] f (k + 1)).toArray⟩ : ByteArray) = ⟨(Stx.tx [47] f k).toArray⟩ ++ ⟨([47] : List UInt8).toArray⟩ ++ ⟨(itoa (f k)).toArray⟩
      rw [Fx.app_eq, Fx.app_eq]
      show (⟨((if k = 0 then [] else Stx.tx [47] f k ++ [47]) ++ itoa (f k)).toArray⟩ : ByteArray) = _
      rw [if_neg (by omega)]) w
/-- The text of a grade. -/
noncomputable def gtT (f : Nat → Int) : ByteArray := if grB f then ⟨(Stx.tx [47] f 5).toArray⟩ else ⟨#[]⟩
theorem gr_in {f : Nat → Int} (h : grB f = true) : ∀ k, k < 5 → -20000 ≤ f k ∧ f k ≤ 20000 := fun k hk => by have := gr_at h hk; omega
set_option maxHeartbeats 1000000 in
theorem spec_text (f : Nat → Int) (w : World) : Calls Tryd.prog 28 #[fvV f] w fun e w' => e = .returned (.string (gtT f)) ∧ Below w.heap.size w w' := by
  have C := Lib.hid fun w => ok_any f w
  have T := Lib.hid fun h w => spec_tx f (gr_in h) w
  have H0 : Hid (grB f = false → gtT f = ⟨#[]⟩) := Lib.hid fun h => by unfold gtT; rw [h]; rfl
  have H1 : Hid (grB f = true → gtT f = ⟨(Stx.tx [47] f 5).toArray⟩) := Lib.hid fun h => by unfold gtT; rw [h]; rfl
  have K := Lib.hid (heap_alloc_new w (fvC f 50))
  have HB := Lib.hid (below_box w (fvC f 50))
  generalize gtT f = R at H0 H1 ⊢
  generalize grB f = r at C T H0 H1
  generalize (⟨(Stx.tx [47] f 5).toArray⟩ : ByteArray) = q at T H1
  unfold fvV at C T ⊢
  unfold fvC at K HB
  generalize f 0 = g0, f 1 = g1, f 2 = g2, f 3 = g3, f 4 = g4 at *
  cases r
  · have HE := Lib.hid (H0.out rfl)
    clear T H0 H1 K
    go_enter Tryd.func28, Tryd.ntmps28
    go_wp2_with fail
    refine (C.out _).mono ?_
    rintro e w1 ⟨rfl, b1⟩
    have HB1 := Lib.hid (below_then HB.out b1)
    clear b1
    go_wp2_with fail
    go_ret
    exact ⟨ret_str HE.out.symm, HB1.out⟩
  · have HE := Lib.hid (H1.out rfl)
    have T1 := Lib.hid fun w => T.out rfl w
    clear H0 H1 T
    go_enter Tryd.func28, Tryd.ntmps28
    go_wp2_with fail
    refine (C.out _).mono ?_
    rintro e w1 ⟨rfl, b1⟩
    have HB1 := Lib.hid (below_then HB.out b1)
    obtain ⟨x0, x1, x2, x3, x4⟩ := blk5 (Ba.blk_keep b1 K.out)
    clear b1
    go_wp2_with fail
    refine (T1.out _).mono ?_
    rintro e w2 ⟨rfl, b2⟩
    have HB2 := Lib.hid (below_then HB1.out b2)
    clear b2 x0 x1 x2 x3 x4
    go_wp2_with fail
    go_ret
    exact ⟨ret_str HE.out.symm, HB2.out⟩
set_option maxHeartbeats 1000000 in
theorem impl_text (f : Nat → Int) (w : World) (ht : Tab w) : Calls Tryd.prog 30 #[fvV f] w fun e w' => e = .returned (.string (gtT f)) ∧ Below w.heap.size w w' := by
  have C := Lib.hid fun w => valid_gr f w
  have M := Lib.hid fun w => numbers_gr f w
  have HT := Lib.hid ht
  have H0 : Hid (grB f = false → gtT f = ⟨#[]⟩) := Lib.hid fun h => by unfold gtT; rw [h]; rfl
  have H1 : Hid (grB f = true → gtT f = ⟨(Stx.tx [47] f 5).toArray⟩) := Lib.hid fun h => by unfold gtT; rw [h]; rfl
  have SL : Hid (grB f = true → ∀ (g : Nat) (w : World), Tab w → w.heap[g]? = some (.cells #[.int .i64 (f 0), .int .i64 (f 1), .int .i64 (f 2), .int .i64 (f 3), .int .i64 (f 4)] 82 (0, 0)) → Calls Tryd.prog 45 #[.string ⟨#[47]⟩, .slice (some ⟨g, 0, none⟩) 5 5] w fun e w' => e = .returned (.string ⟨(Stx.tx [47] f 5).toArray⟩) ∧ Below w.heap.size w w') := Lib.hid fun h g w ht hk => by
    refine Stx.slash_any [47] rfl g 5 5 f (by omega) (gr_in h) w ht fun k hk5 => ?_
    obtain ⟨x0, x1, x2, x3, x4⟩ := blk5 hk
    obtain rfl | rfl | rfl | rfl | rfl : k = 0 ∨ k = 1 ∨ k = 2 ∨ k = 3 ∨ k = 4 := by omega
    · exact x0
    · exact x1
    · exact x2
    · exact x3
    · exact x4
  have K := Lib.hid (heap_alloc_new w (fvC f 50))
  have HB := Lib.hid (below_box w (fvC f 50))
  clear ht
  generalize gtT f = R at H0 H1 ⊢
  generalize grB f = r at C SL H0 H1
  generalize (⟨(Stx.tx [47] f 5).toArray⟩ : ByteArray) = q at SL H1
  unfold fvV at C M ⊢
  unfold fvC at K HB
  generalize f 0 = g0, f 1 = g1, f 2 = g2, f 3 = g3, f 4 = g4 at *
  cases r
  · have HE := Lib.hid (H0.out rfl)
    clear SL H0 H1 K
    go_enter Tryd.func30, Tryd.ntmps30
    go_wp2_with fail
    refine (C.out _).mono ?_
    rintro e w1 ⟨rfl, b1⟩
    have HB1 := Lib.hid (below_then HB.out b1)
    clear b1
    go_wp2_with fail
    go_ret
    exact ⟨ret_str HE.out.symm, HB1.out⟩
  · have HE := Lib.hid (H1.out rfl)
    have S1 := Lib.hid fun g w => SL.out rfl g w
    clear H0 H1 SL
    go_enter Tryd.func30, Tryd.ntmps30
    go_wp2_with fail
    refine (C.out _).mono ?_
    rintro e w1 ⟨rfl, b1⟩
    have HB1 := Lib.hid (below_then HB.out b1)
    obtain ⟨x0, x1, x2, x3, x4⟩ := blk5 (Ba.blk_keep b1 K.out)
    clear b1
    go_wp2_with fail
    refine (M.out _).mono ?_
    rintro e w2 ⟨rfl, b2⟩
    have HB2 := Lib.hid (below_then HB1.out b2)
    clear b2 x0 x1 x2 x3 x4 HB1
    have K3 := Lib.hid (blk_new w2 (.cells #[.int .i64 g0, .int .i64 g1, .int .i64 g2, .int .i64 g3, .int .i64 g4] 82))
    have HB3 := Lib.hid (below_then HB2.out (below_box w2 (.cells #[.int .i64 g0, .int .i64 g1, .int .i64 g2, .int .i64 g3, .int .i64 g4] 82)))
    go_wp2_with fail
    refine (S1.out _ _ (HT.out.below HB3.out) K3.out).mono ?_
    rintro e w4 ⟨rfl, b4⟩
    have HB4 := Lib.hid (below_then HB3.out b4)
    clear b4
    go_wp2_with fail
    go_ret
    exact ⟨ret_str HE.out.symm, HB4.out⟩
set_option maxHeartbeats 1000000 in
theorem core (g : Nat → Int) (w : World) (ht : Tab w) : Calls Tryd.prog 8 #[fvV g] w fun e w' => e = .returned (.bool true) ∧ Below w.heap.size w w' := by
  have CT := Lib.hid (fun w => to_grade g w)
  have CS := Lib.hid (fun w => spec_text g w)
  have CI := Lib.hid (fun w h => impl_text g w h)
  have HT := Lib.hid ht
  have K := Lib.hid (heap_alloc_new w (fvC g 48))
  have HB := Lib.hid (below_box w (fvC g 48))
  clear ht
  generalize gtT g = r at CS CI
  unfold fvV at CT CS CI ⊢
  unfold fvC at K HB
  generalize g 0 = g0, g 1 = g1, g 2 = g2, g 3 = g3, g 4 = g4 at *
  go_enter Tryd.func8, Tryd.ntmps8
  obtain ⟨x0, x1, x2, x3, x4⟩ := blk5 K.out
  go_wp2_with fail
  refine (CT.out _).mono ?_
  rintro e w1 ⟨rfl, b1⟩
  have B1 := Lib.hid (below_then HB.out b1)
  have K1 := Lib.hid (Ba.blk_keep b1 K.out)
  clear b1 x0 x1 x2 x3 x4
  go_wp2_with fail
  refine (CS.out _).mono ?_
  rintro e w2 ⟨rfl, b2⟩
  have B2 := Lib.hid (below_then B1.out b2)
  have K2 := Lib.hid (Ba.blk_keep b2 K1.out)
  clear b2
  obtain ⟨x0, x1, x2, x3, x4⟩ := blk5 K2.out
  go_wp2_with fail
  refine (CT.out _).mono ?_
  rintro e w3 ⟨rfl, b3⟩
  have B3 := Lib.hid (below_then B2.out b3)
  clear b3 x0 x1 x2 x3 x4
  go_wp2_with fail
  refine (CI.out _ (HT.out.below B3.out)).mono ?_
  rintro e w4 ⟨rfl, b4⟩
  have B4 := Lib.hid (below_then B3.out b4)
  clear b4
  go_wp2_with fail
  go_ret
  exact ⟨rfl, B4.out⟩
/-- Five numbers, by place. -/
def of5 (a b c d e : Int) (k : Nat) : Int := match k with | 0 => a | 1 => b | 2 => c | 3 => d | _ => e
theorem law (a b c d e : Int) (w : World) (ht : Tab w) (_ : (Lit.int .i64 a).wf = true) (_ : (Lit.int .i64 b).wf = true) (_ : (Lit.int .i64 c).wf = true) (_ : (Lit.int .i64 d).wf = true) (_ : (Lit.int .i64 e).wf = true) :
    Calls Tryd.prog 8 #[.agg #[.int .i64 a, .int .i64 b, .int .i64 c, .int .i64 d, .int .i64 e]] w fun e w' => e = .returned (.bool true) ∧ Below w.heap.size w w' := core (of5 a b c d e) w ht
end Go.Proofs.YtggbdpamjjgakabDoor.Gt
