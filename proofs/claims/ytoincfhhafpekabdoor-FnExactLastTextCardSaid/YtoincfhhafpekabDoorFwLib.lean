/- FootText: the program's, the walk of the law. -/
import Derived.Test.YtoincfhhafpekabDoorFxLib
import Derived.Test.YtoincfhhafpekabDoorBuLib
namespace Go.Proofs.YtoincfhhafpekabDoor.Fw
open Go.RowKit Ba Go.Lib Dc Ds Tb Fx Bu
set_option linter.unusedVariables false

theorem bu_keep {B b : Nat} {p : Value} {bs : List Value} {w w' : World} (h : At B b p bs w) (hb : Below w.heap.size w w') : At B b p bs w' := by
  obtain ⟨hB, v, hk, hown, hne⟩ := h
  refine ⟨hB, v, Ba.blk_keep hb hk, ⟨hown.1, ?_⟩, hne⟩
  rcases hown.2 with h0 | ⟨g, cap, cur, fz, hv, hbg, hh, r⟩
  · exact .inl h0
  · exact .inr ⟨g, cap, cur, fz, hv, hbg, Ba.blk_keep hb hh, r⟩
/-- What is written of a foot's measures behind k rounds. -/
def pre (l b i h : Int) : Nat → List UInt8
  | 0 => []
  | 1 => itoa l
  | 2 => itoa l ++ [47] ++ itoa b
  | 3 => itoa l ++ [47] ++ itoa b ++ [47] ++ itoa i
  | _ => ftL l b i h
theorem pre_step (l b i h : Int) (k : Nat) (h0 : 0 < k) (h4 : k < 4) : pre l b i h (k + 1) = pre l b i h k ++ [47] ++ itoa (Ft.nth l b i h k) := by
  obtain rfl | rfl | rfl : k = 1 ∨ k = 2 ∨ k = 3 := by omega
  all_goals rfl
theorem nth_in {l b i h : Int} (r : Ft.ftB l b i h = true) (k : Nat) : 500 ≤ Ft.nth l b i h k ∧ Ft.nth l b i h k ≤ 5000 := by
  obtain ⟨h0, h1, h2, h3⟩ := ft_is r
  match k with
  | 0 => exact h0
  | 1 => exact h1
  | 2 => exact h2
  | k + 3 => exact h3
theorem pre_len {l b i h : Int} (r : Ft.ftB l b i h = true) (k : Nat) : (pre l b i h k).length ≤ 100 := by
  obtain ⟨h0, h1, h2, h3⟩ := ft_is r
  have a0 := len_le l h0.1 h0.2
  have a1 := len_le b h1.1 h1.2
  have a2 := len_le i h2.1 h2.2
  have a3 := len_le h h3.1 h3.2
  match k with
  | 0 => simp [pre]
  | 1 => simp [pre]; omega
  | 2 => simp [pre]; omega
  | 3 => simp [pre]; omega
  | k + 4 => simp [pre, ftL]; omega
theorem cells_byte (a : List UInt8) : byteCells a ++ [.int .u8 47] = byteCells (a ++ [47]) := by rw [byteCells_append]; rfl
theorem cells_text (a t : List UInt8) : byteCells a ++ strCells ⟨t.toArray⟩ = byteCells (a ++ t) := by rw [byteCells_append]; rfl

set_option maxRecDepth 100000 in
set_option maxHeartbeats 2000000 in
theorem impl_text (l b i h : Int) (w : World) (ht : Tab w) : Calls Tryd.prog 15 #[.agg #[.int .i64 l, .int .i64 b, .int .i64 i, .int .i64 h]] w fun e w' => e = .returned (.string (ftT l b i h)) ∧ Below w.heap.size w w' := by
  have C := Lib.hid fun w => Ft.impl_valid l b i h w
  cases r : Ft.ftB l b i h
  · have HE : Hid (ftT l b i h = ⟨#[]⟩) := Lib.hid (by unfold ftT; rw [r]; rfl)
    rw [r] at C
    clear ht
    go_enter Tryd.func15, Tryd.ntmps15
    go_wp2_with fail
    refine (C.out _).mono ?_
    rintro e w1 ⟨rfl, b1⟩
    go_wp2_with fail
    go_ret
    exact ⟨ret_str HE.out.symm, below_then (below_box _ _) b1⟩
  · have HE : Hid (ftT l b i h = ⟨(pre l b i h 4).toArray⟩) := Lib.hid (by unfold ftT; rw [r]; rfl)
    have HT := Lib.hid ht
    have ND := Lib.hid fun k (w : World) (ht : Tab w) => (by have hn := nth_in r k; exact idec (Ft.nth l b i h k) (by omega) (by omega) w ht)
    have NL := Lib.hid fun k => (by have hn := nth_in r k; exact len_le _ hn.1 hn.2 : (itoa (Ft.nth l b i h k)).length ≤ 21)
    have PL := Lib.hid fun k => pre_len r k
    have PS := Lib.hid fun k h0 h4 => pre_step l b i h k h0 h4
    have P0 : Hid (pre l b i h 0 = [] ∧ pre l b i h 1 = itoa (Ft.nth l b i h 0)) := Lib.hid ⟨rfl, rfl⟩
    have M := Lib.hid fun w => Ft.measures_any l b i h w
    have IX := Lib.hid fun k hk => Ft.index_nth l b i h k hk
    rw [r] at C
    clear r ht
    generalize pre l b i h = Q at HE PL PS P0
    go_enter Tryd.func15, Tryd.ntmps15
    go_wp2_with fail
    refine (C.out _).mono ?_
    rintro e w1 ⟨rfl, b1⟩
    obtain ⟨hb1, k1⟩ := boxes1 b1
    obtain ⟨y0, y1, y2, y3⟩ := blk4 k1
    have HB1 := Lib.hid hb1
    have K1 := Lib.hid k1
    obtain ⟨x0, x1, x2, x3⟩ := blk4 (blk_old (.cells #[.pointer none, .slice none 0 0] 54) k1)
    have hz1 := hb1.size
    clear b1 hb1 k1
    go_wp2_with fail
    refine (M.out _).mono ?_
    rintro e w2 ⟨rfl, b2⟩
    have HB2 := Lib.hid (below_then (HB1.out.alloc hz1 (.cells #[.pointer none, .slice none 0 0] 54)) b2)
    have BA : Hid (At w.heap.size w1.heap.size (.pointer none) (byteCells (Q 0)) w2) := Lib.hid (by
      rw [P0.out.1]
      exact ⟨hz1, .slice none 0 0, Ba.blk_keep b2 (blk_new _ _), World.ownsRowF_of (World.ownsRow_nil _ _ _ _), by simp [Value.ownBlock]⟩)
    clear b2 y0 y1 y2 y3 x0 x1 x2 x3 HB1 K1
    generalize w1.heap.size = g at BA hz1 ⊢
    go_wp2_with fail
    go_loopw [4, 5, 11] (fun _ _ n wr => ∃ k : Nat, k ≤ 4 ∧ n = .int .i64 (k : Int) ∧ Hid (Below w.heap.size w wr) ∧ Hid (IsBuilderF 54 5 w.heap.size g (byteCells (Q k)) wr)) (fun _ _ n _ => 4 - (RowKit.intOf n).toNat)
    case atStart => exact ⟨0, Nat.zero_le _, rfl, HB2, Lib.hid (.inl BA.out)⟩
    case round =>
      obtain ⟨k, hk, rfl, HB, HA⟩ := hrel
      by_cases hlt : k < 4
      · have hix := IX.out k hlt
        have D := Lib.hid fun w h => ND.out k w h
        have hlen := NL.out k
        have hpl := PL.out k
        have hsz := HB.out.size
        by_cases h0 : k = 0
        · subst h0
          rw [show ((0 : Nat) : Int) = 0 from rfl] at hix
          have hq : Hid (byteCells (Q 0) ++ strCells ⟨(itoa (Ft.nth l b i h 0)).toArray⟩ = byteCells (Q 1)) := Lib.hid (by rw [cells_text, P0.out.1, P0.out.2]; rfl)
          generalize (itoa (Ft.nth l b i h 0)) = t at D hlen hq
          generalize Ft.nth l b i h 0 = x at hix D
          clear hk hlt
          go_wp2_with fail
          refine (D.out _ (HT.out.below HB.out)).mono ?_
          rintro e w3 ⟨rfl, b3⟩
          have HB3 := Lib.hid (below_then HB.out b3)
          have HA3 : Hid (IsBuilderF 54 5 w.heap.size g (byteCells (Q 0)) w3) := Lib.hid (HA.out.elim (fun h => .inl (bu_keep h b3)) (fun h => .inr (bu_keep h b3)))
          have W := Lib.hid (put_text w.heap.size g (byteCells (Q 0)) ⟨t.toArray⟩ w3 HA3.out (by rw [byteCells_length]; show _ + t.length ≤ _; omega) HB3.out.size)
          clear b3
          go_wp2_with fail
          refine W.out.mono ?_
          rintro e w4 ⟨rfl, ha4, b4⟩
          have HB4 := Lib.hid (HB3.out.trans b4)
          have HA4 : Hid (IsBuilderF 54 5 w.heap.size g (byteCells (Q 1)) w4) := Lib.hid (by rw [← hq.out]; exact .inr ha4)
          clear W ha4 b4
          go_wp2_with fail
          go_roundw
          case rel => exact ⟨1, by omega, by go_num, HB4, HA4⟩
          case measure => simp [RowKit.intOf]
        · have hk0 : (0 : Int) < (k : Int) := by omega
          have hq : Hid ((byteCells (Q k) ++ [.int .u8 47]) ++ strCells ⟨(itoa (Ft.nth l b i h k)).toArray⟩ = byteCells (Q (k + 1))) := Lib.hid (by rw [cells_byte, cells_text, PS.out k (by omega) hlt])
          generalize (itoa (Ft.nth l b i h k)) = t at D hlen hq
          generalize Ft.nth l b i h k = x at hix D
          have V := Lib.hid (put_byte w.heap.size g (byteCells (Q k)) 47 wr HA.out (by rw [byteCells_length]; omega) hsz)
          clear hk h0
          go_wp2_with fail
          refine V.out.mono ?_
          rintro e w2' ⟨rfl, ha2, b2⟩
          have HB2' := Lib.hid (HB.out.trans b2)
          have HA2 := Lib.hid ha2
          clear V ha2 b2
          go_wp2_with fail
          refine (D.out _ (HT.out.below HB2'.out)).mono ?_
          rintro e w3 ⟨rfl, b3⟩
          have HB3 := Lib.hid (below_then HB2'.out b3)
          have HA3 := Lib.hid (bu_keep HA2.out b3)
          have W := Lib.hid (put_text w.heap.size g (byteCells (Q k) ++ [.int .u8 47]) ⟨t.toArray⟩ w3 (.inr HA3.out) (by rw [List.length_append, byteCells_length]; show _ + t.length ≤ _; simp; omega) HB3.out.size)
          clear b3
          go_wp2_with fail
          refine W.out.mono ?_
          rintro e w4 ⟨rfl, ha4, b4⟩
          have HB4 := Lib.hid (HB3.out.trans b4)
          have HA4 : Hid (IsBuilderF 54 5 w.heap.size g (byteCells (Q (k + 1))) w4) := Lib.hid (by rw [← hq.out]; exact .inr ha4)
          clear W ha4 b4
          go_wp2_with fail
          go_roundw
          case rel => exact ⟨k + 1, by omega, by go_num, HB4, HA4⟩
          case measure => simp [RowKit.intOf]; omega
      · obtain rfl : k = 4 := by omega
        have S := Lib.hid (Tryd.Builder_String_any_k w.heap.size g (Q 4) wr HA.out HB.out.size)
        clear hk hlt
        generalize (Q 4).toArray = q at S HE
        go_wp2_with fail
        refine S.out.mono ?_
        rintro e w5 ⟨rfl, _, b5, _⟩
        have HB5 := Lib.hid (HB.out.trans b5)
        clear b5
        go_wp2_with fail
        go_ret
        exact ⟨ret_str HE.out.symm, HB5.out⟩
end Go.Proofs.YtoincfhhafpekabDoor.Fw
