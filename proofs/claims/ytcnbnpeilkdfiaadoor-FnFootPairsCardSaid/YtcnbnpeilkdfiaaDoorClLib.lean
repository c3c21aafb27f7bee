/- The column of one measure of a list of feet: the spec's and the program's. -/
import Derived.Test.YtcnbnpeilkdfiaaDoorFcLib
import Derived.OwnWalk
namespace Go.Proofs.YtcnbnpeilkdfiaaDoor.Cl
open Go.RowKit Ft Fs Ld Is Fc

theorem row_below {w w' : World} {base : Nat} {e : TypeId} {size n : Nat} {v : Value} {xs : List Value} (h : w.ownsRow base e size v n xs) (hb : Below w.heap.size w w') : w'.ownsRow base e size v n xs :=
  ⟨h.1, by
    rcases h.2 with h0 | ⟨g, cap, cur, hv, hbg, hh, r⟩
    · exact .inl h0
    · exact .inr ⟨g, cap, cur, hv, hbg, blk_keep hb hh, r⟩⟩
/-- A new slice of n numbers. -/
def ColAt (n : Nat) (f : Nat → Int) (w : World) (e : Ending) (w' : World) : Prop :=
  ∃ A cap, e = .returned (.slice A n cap) ∧ Hid (Own w' w.heap.size A n f) ∧ Below w.heap.size w w'
theorem col_of_row {n : Nat} {f : Nat → Int} {w w' : World} {v : Value} (h : w'.ownsRow w.heap.size 2 1 v n (upto f n)) (hb : Below w.heap.size w w') : ColAt n f w (.returned v) w' := by
  rcases h.2 with ⟨rfl, rfl⟩ | ⟨g, cap, cur, rfl, hbg, hh, _⟩
  · exact ⟨none, 0, rfl, Lib.hid fun h => absurd h (by omega), hb⟩
  · exact ⟨_, cap, rfl, Lib.hid fun _ => ⟨g, 0, rfl, hbg, lt_of_heap hh, fun i hi => by rw [Nat.zero_add]; exact (h.cellAt i (by omega)).trans (upto_get f hi), fun i => blk_free hh i⟩, hb⟩

theorem nth_at (f : Nat → Int) {k : Nat} (hk : k < 4) : nth (f 0) (f 1) (f 2) (f 3) k = f k := by
  obtain rfl | rfl | rfl | rfl : k = 0 ∨ k = 1 ∨ k = 2 ∨ k = 3 := by omega
  all_goals rfl

set_option maxRecDepth 100000 in
theorem impl_col (A : Option Addr) (n c kd : Nat) (F : Nat → Nat → Int) (hn : n ≤ 1048576) (hkd : kd < 4) (w : World) (hA : Ints w w.heap.size 4 A n F) :
    Calls Tryd.prog 34 #[.slice A n c, .int .i64 kd] w (ColAt n (fun i => F i kd) w) := by
  obtain ⟨i0, hi0, hz0, hz1, hz2⟩ := info_parts info_int
  have hmk : (Instr.makeSlice 29 (.int .i64 0) (.int .i64 (n : Int))).run Tryd.prog w = _ := run_make w _ _ i0 _ Tryd.underlying29 hi0 hz0 .i64 .i64 0 n (by omega) (by omega) (by rw [hz2]; omega) (by omega)
  rw [hz1] at hmk
  simp only [Int.toNat_natCast] at hmk
  have HI := Lib.hid (And.intro hi0 (And.intro hz0 (And.intro hz1 hz2)))
  have HA := Lib.hid hA
  clear hi0 hz0 hz1 hz2 hA
  have k1 : (kd : Int) < 4 := by omega
  go_enter Tryd.func34, Tryd.ntmps34
  go_wp2_with fail
  clear hmk
  go_loopw [5, 7, 13] (fun o _ i wr => ∃ (k : Nat) (v : Value), k ≤ n ∧ v = o ∧ i = .int .i64 k ∧ Below w.heap.size w wr ∧ Hid (wr.ownsRow w.heap.size 2 1 v k (upto (fun i => F i kd) k))) (fun _ _ i _ => n - (intOf i).toNat)
  case atStart => exact ⟨0, _, Nat.zero_le _, rfl, rfl, below_box _ _, Lib.hid (World.ownsRow_made w _ n (Nat.le_refl _) (by unfold maxLen; omega) (by rw [size_madeCells]; omega))⟩
  case round =>
    obtain ⟨k, v, hk, rfl, rfl, hbel, hown⟩ := hrel
    have HB := Lib.hid hbel
    by_cases hlt : k < n
    · obtain ⟨b, off, rfl, hb, hc⟩ := (HA.out.below hbel (Nat.le_refl _)).2.2 (by omega)
      obtain ⟨x0, x1, x2, x3⟩ := Ints.cells4 hc hlt
      have hzr := HB.out.size
      clear hc hbel hk
      go_wp2_with fail
      refine (measures_any _ _ _ _ _).mono ?_
      rintro e w1 ⟨rfl, b1⟩
      have hix := index_nth (F k 0) (F k 1) (F k 2) (F k 3) kd hkd
      rw [nth_at (F k) hkd] at hix
      have HB1 := Lib.hid (below_then (HB.out.alloc hzr _) b1)
      have hz := HB1.out.size
      have HO := Lib.hid (row_below (hown.out.alloc _) b1)
      clear x0 x1 x2 x3 b1
      go_wp2_with (at_builtin; refine wpList_append_own _ rfl _ _ 29 rfl w.heap.size 2 i0 _ 1 8 Tryd.underlying29 HI.out.1 HI.out.2.1 HI.out.2.2.1 HI.out.2.2.2 rfl (by decide) _ _ _ rfl (HO.out.alloc _) ⟨w1.heap.size, 0, none⟩ 1 1 [.int .i64 (F k kd)] rfl rfl ?c1 ?c2 ?c3 ?c4 ?c5 ?_)
      case c1 => exact cell_one_new _ _ _
      case c2 => simp [Value.oneCell']
      case c3 => unfold maxLen; omega
      case c4 => omega
      case c5 => simp; omega
      intro v' w2 hown2 hgrow _
      have HQ := Lib.hid ((HB1.out.alloc hz _).grown hgrow (by simp; omega) fun g hg => (HO.out.lt g hg).1)
      have HO2 : Hid (w2.ownsRow w.heap.size 2 1 v' (k + 1) (upto (fun i => F i kd) (k + 1))) := Lib.hid (by rw [upto_snoc]; exact hown2)
      clear hown2 hgrow hix
      go_wp2_with fail
      go_roundw
      case rel => exact ⟨k + 1, _, by omega, rfl, by go_num, HQ.out, HO2⟩
      case measure => simp [intOf]; omega
    · obtain rfl : k = n := by omega
      have HF := Lib.hid (col_of_row hown.out hbel)
      clear hbel
      go_wp2_with fail
      go_ret
      exact HF.out
end Go.Proofs.YtcnbnpeilkdfiaaDoor.Cl
