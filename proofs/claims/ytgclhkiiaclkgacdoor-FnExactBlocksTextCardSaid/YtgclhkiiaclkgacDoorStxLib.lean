/- Numbers with a separator between them: the program's text of them. -/
import Derived.Test.YtgclhkiiaclkgacDoorTbLib
import Derived.Test.YtgclhkiiaclkgacDoorBuLib
import Derived.Lib.ItoaLen
namespace Go.Proofs.YtgclhkiiaclkgacDoor.Stx
open Go.RowKit Ba Go.Lib Dc Ds Tb Bu
set_option linter.unusedVariables false

theorem bu_keep {B b : Nat} {p : Value} {bs : List Value} {w w' : World} (h : At B b p bs w) (hb : Below w.heap.size w w') : At B b p bs w' := by
  obtain ⟨hB, v, hk, hown, hne⟩ := h
  refine ⟨hB, v, Ba.blk_keep hb hk, ⟨hown.1, ?_⟩, hne⟩
  rcases hown.2 with h0 | ⟨g, cap, cur, fz, hv, hbg, hh, r⟩
  · exact .inl h0
  · exact .inr ⟨g, cap, cur, fz, hv, hbg, Ba.blk_keep hb hh, r⟩
theorem cells_text (a t : List UInt8) : byteCells a ++ strCells ⟨t.toArray⟩ = byteCells (a ++ t) := by rw [byteCells_append]; rfl
/-- The first k numbers in decimal, a separator between them. -/
def tx (sp : List UInt8) (f : Nat → Int) : Nat → List UInt8
  | 0 => []
  | k + 1 => (if k = 0 then [] else tx sp f k ++ sp) ++ itoa (f k)
theorem dec_len (n : Int) (h0 : -20000 ≤ n) (h1 : n ≤ 20000) : (itoa n).length ≤ 21 := itoa_length_le n (by omega) (by omega)
theorem tx_len {sp : List UInt8} {f : Nat → Int} {n : Nat} (hsp : sp.length = 1) (h : ∀ k, k < n → -20000 ≤ f k ∧ f k ≤ 20000) : ∀ k, k ≤ n → (tx sp f k).length ≤ 22 * k
  | 0, _ => by simp [tx]
  | k + 1, hk => by
    have ih := tx_len hsp h k (by omega)
    have hd := dec_len (f k) (h k (by omega)).1 (h k (by omega)).2
    unfold tx
    split
    · simp; omega
    · simp; omega

set_option maxRecDepth 100000 in
set_option maxHeartbeats 2000000 in
theorem slash_off (sp : List UInt8) (hsp : sp.length = 1) (g off n cp : Nat) (f : Nat → Int) (hn : n ≤ 8) (hf : ∀ k, k < n → -20000 ≤ f k ∧ f k ≤ 20000) (w : World) (ht : Tab w) (hc : ∀ k, k < n → w.cell? ⟨g, off + k, none⟩ = some (.int .i64 (f k))) :
    Calls Tryd.prog 15 #[.string ⟨sp.toArray⟩, .slice (some ⟨g, off, none⟩) n cp] w fun e w' => e = .returned (.string ⟨(tx sp f n).toArray⟩) ∧ Below w.heap.size w w' := by
  have HT := Lib.hid ht
  have HC := Lib.hid hc
  have ND : Hid (∀ k, k < n → ∀ (w : World) (ht : Tab w), Calls Tryd.prog 14 #[.int .i64 (f k)] w fun e w' => e = .returned (.string ⟨(itoa (f k)).toArray⟩) ∧ Below w.heap.size w w') := Lib.hid fun k hk w ht => idec (f k) (by have := hf k hk; omega) (by have := hf k hk; omega) w ht
  have NL : Hid (∀ k, k < n → (itoa (f k)).length ≤ 21) := Lib.hid fun k hk => dec_len _ (hf k hk).1 (hf k hk).2
  have PL : Hid (∀ k, k ≤ n → (tx sp f k).length ≤ 176) := Lib.hid fun k hk => by have := tx_len hsp hf k hk; omega
  have PS : Hid (∀ k, 0 < k → tx sp f (k + 1) = tx sp f k ++ sp ++ itoa (f k)) := Lib.hid fun k h0 => by show (if k = 0 then [] else tx sp f k ++ sp) ++ itoa (f k) = _; rw [if_neg (by omega)]
  have P0 : Hid (tx sp f 0 = [] ∧ tx sp f 1 = itoa (f 0)) := Lib.hid ⟨rfl, rfl⟩
  clear ht hc hf
  generalize tx sp f = Q at PL PS P0 ⊢
  have BA : Hid (At w.heap.size w.heap.size (.pointer none) (byteCells (Q 0)) (w.alloc (.cells #[.pointer none, .slice none 0 0] 38))) := Lib.hid (by
    rw [P0.out.1]
    exact ⟨Nat.le_refl _, .slice none 0 0, blk_new _ _, World.ownsRowF_of (World.ownsRow_nil _ _ _ _), by simp [Value.ownBlock]⟩)
  have B0 := Lib.hid (below_box w (.cells #[.pointer none, .slice none 0 0] 38))
  go_enter Tryd.func15, Tryd.ntmps15
  go_wp2_with fail
  go_loopw [6, 7, 10] (fun _ _ i wr => ∃ k : Nat, k ≤ n ∧ i = .int .i64 (k : Int) ∧ Hid (Below w.heap.size w wr) ∧ Hid (IsBuilderF 38 5 w.heap.size w.heap.size (byteCells (Q k)) wr)) (fun _ _ i _ => n - (RowKit.intOf i).toNat)
  case atStart => exact ⟨0, Nat.zero_le _, rfl, B0, Lib.hid (.inl BA.out)⟩
  case round =>
    obtain ⟨k, hk, rfl, HB, HA⟩ := hrel
    have e0 : (0 : Int) ≤ (k : Int) := Int.natCast_nonneg _
    by_cases hlt : k < n
    · have x0 : wr.cell? ⟨g, off + k, none⟩ = some (.int .i64 (f k)) := by
        have := HC.out k hlt
        exact (HB.out.cell (p := ⟨g, off + k, none⟩) (World.block_lt_of_cell? w _ this)).trans this
      have e1 : (k : Int) < (n : Int) := by omega
      have D := Lib.hid fun w h => ND.out k hlt w h
      have hlen := NL.out k hlt
      have hpl := PL.out k hk
      have hsz := HB.out.size
      by_cases h0 : k = 0
      · subst h0
        simp only [Nat.add_zero] at x0
        have hq : Hid (byteCells (Q 0) ++ strCells ⟨(itoa (f 0)).toArray⟩ = byteCells (Q 1)) := Lib.hid (by rw [cells_text, P0.out.1, P0.out.2]; rfl)
        generalize (itoa (f 0)) = t at D hlen hq
        generalize f 0 = x at x0 D
        clear hk
        go_wp2_with fail
        refine (D.out _ (HT.out.below HB.out)).mono ?_
        rintro e w3 ⟨rfl, b3⟩
        have HB3 := Lib.hid (below_then HB.out b3)
        have HA3 : Hid (IsBuilderF 38 5 w.heap.size w.heap.size (byteCells (Q 0)) w3) := Lib.hid (HA.out.elim (fun h => .inl (bu_keep h b3)) (fun h => .inr (bu_keep h b3)))
        have W := Lib.hid (put_text w.heap.size w.heap.size (byteCells (Q 0)) ⟨t.toArray⟩ w3 HA3.out (by rw [byteCells_length]; show _ + t.length ≤ _; omega) HB3.out.size)
        clear b3 x0
        go_wp2_with fail
        refine W.out.mono ?_
        rintro e w4 ⟨rfl, ha4, b4⟩
        have HB4 := Lib.hid (HB3.out.trans b4)
        have HA4 : Hid (IsBuilderF 38 5 w.heap.size w.heap.size (byteCells (Q 1)) w4) := Lib.hid (by rw [← hq.out]; exact .inr ha4)
        clear W ha4 b4
        go_wp2_with fail
        go_roundw
        case rel => exact ⟨1, by omega, by go_num, HB4, HA4⟩
        case measure => simp [RowKit.intOf]; omega
      · have hk0 : (0 : Int) < (k : Int) := by omega
        have hq : Hid ((byteCells (Q k) ++ strCells ⟨sp.toArray⟩) ++ strCells ⟨(itoa (f k)).toArray⟩ = byteCells (Q (k + 1))) := Lib.hid (by rw [cells_text, cells_text, PS.out k (by omega)])
        generalize (itoa (f k)) = t at D hlen hq
        generalize f k = x at x0 D
        have V := Lib.hid (put_text w.heap.size w.heap.size (byteCells (Q k)) ⟨sp.toArray⟩ wr HA.out (by rw [byteCells_length]; show _ + sp.length ≤ _; omega) hsz)
        clear hk h0
        go_wp2_with fail
        refine V.out.mono ?_
        rintro e w2' ⟨rfl, ha2, b2⟩
        have HB2' := Lib.hid (HB.out.trans b2)
        have HA2 := Lib.hid ha2
        clear V ha2 b2 x0
        go_wp2_with fail
        refine (D.out _ (HT.out.below HB2'.out)).mono ?_
        rintro e w3 ⟨rfl, b3⟩
        have HB3 := Lib.hid (below_then HB2'.out b3)
        have HA3 := Lib.hid (bu_keep HA2.out b3)
        have W := Lib.hid (put_text w.heap.size w.heap.size (byteCells (Q k) ++ strCells ⟨sp.toArray⟩) ⟨t.toArray⟩ w3 (.inr HA3.out) (by rw [cells_text, byteCells_length, List.length_append]; show _ + t.length ≤ _; omega) HB3.out.size)
        clear b3
        go_wp2_with fail
        refine W.out.mono ?_
        rintro e w4 ⟨rfl, ha4, b4⟩
        have HB4 := Lib.hid (HB3.out.trans b4)
        have HA4 : Hid (IsBuilderF 38 5 w.heap.size w.heap.size (byteCells (Q (k + 1))) w4) := Lib.hid (by rw [← hq.out]; exact .inr ha4)
        clear W ha4 b4
        go_wp2_with fail
        go_roundw
        case rel => exact ⟨k + 1, by omega, by go_num, HB4, HA4⟩
        case measure => simp [RowKit.intOf]; omega
    · obtain rfl : k = n := by omega
      have S := Lib.hid (Tryd.Builder_String_any_k w.heap.size w.heap.size (Q k) wr HA.out HB.out.size)
      clear hk hlt
      generalize hq : (Q k).toArray = q at S
      go_wp2_with fail
      refine S.out.mono ?_
      rintro e w5 ⟨rfl, _, b5, _⟩
      have HB5 := Lib.hid (HB.out.trans b5)
      clear b5
      go_wp2_with fail
      go_ret
      exact ⟨by rw [hq]; rfl, HB5.out⟩
theorem slash_any (sp : List UInt8) (hsp : sp.length = 1) (g n cp : Nat) (f : Nat → Int) (hn : n ≤ 8) (hf : ∀ k, k < n → -20000 ≤ f k ∧ f k ≤ 20000) (w : World) (ht : Tab w) (hc : ∀ k, k < n → w.cell? ⟨g, k, none⟩ = some (.int .i64 (f k))) :
    Calls Tryd.prog 15 #[.string ⟨sp.toArray⟩, .slice (some ⟨g, 0, none⟩) n cp] w fun e w' => e = .returned (.string ⟨(tx sp f n).toArray⟩) ∧ Below w.heap.size w w' :=
  slash_off sp hsp g 0 n cp f hn hf w ht fun k hk => by rw [Nat.zero_add]; exact hc k hk
end Go.Proofs.YtgclhkiiaclkgacDoor.Stx
