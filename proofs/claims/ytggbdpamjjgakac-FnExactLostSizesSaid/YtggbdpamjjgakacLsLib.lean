/- LostSizes: the half sizes that do not come back: the spec's loop and the program's. -/
import Derived.Test.YtggbdpamjjgakacCvLib
import Derived.Test.YtggbdpamjjgakacIbLib
import Derived.Deep.AppendLies
namespace Go.Proofs.Ytggbdpamjjgakac.Ls
open Go.RowKit Ba Nh Sc Fr Lh Sr Sw Hf Nr Cv Is

theorem row_below {w w' : World} {base : Nat} {e : TypeId} {size n : Nat} {v : Value} {xs : List Value} (h : w.ownsRow base e size v n xs) (hb : Below w.heap.size w w') : w'.ownsRow base e size v n xs :=
  ⟨h.1, by
    rcases h.2 with h0 | ⟨g, cap, cur, hv, hbg, hh, r⟩
    · exact .inl h0
    · exact .inr ⟨g, cap, cur, hv, hbg, blk_keep hb hh, r⟩⟩
theorem cell_one (w : World) (v : Value) (t : TypeId) : ∀ j u, [v][j]? = some u → (w.alloc (.cells #[v] t)).cell? ⟨w.heap.size, j, none⟩ = some u := fun j u h => by
  rw [cell_of_row _ _ j _ _ (0, 0) (heap_alloc_new _ _)]
  cases j with
  | zero => simpa using h
  | succ j => simp at h
theorem info_int : (Try.prog.info? 2).map (fun i => (i.zero, i.size, i.bytes)) = some (some (.int .i64 0), 1, 8) := by kernel_rfl
/-- Half sizes that do not come back. -/
def lost (b n d b' n' d' h : Int) : Bool := decide ((conv b' n' d' (conv b n d h b' n' d') b n d : Int) ≠ h)
/-- Those among k half sizes from f on. -/
def lostL (b n d b' n' d' f : Int) : Nat → List Int
  | 0 => []
  | k + 1 => if lost b n d b' n' d' (f + k) then lostL b n d b' n' d' f k ++ [f + k] else lostL b n d b' n' d' f k
theorem lost_len (b n d b' n' d' f : Int) (k : Nat) : (lostL b n d b' n' d' f k).length ≤ k := by
  induction k with
  | zero => simp [lostL]
  | succ k ih =>
    unfold lostL
    split
    · simp; omega
    · omega
def nums (l : List Int) : List Value := l.map (Value.int .i64)
/-- New numbers and a code. -/
def SliceAt (n : Nat) (d : Nat → Int) (c : Int) (w : World) (e : Ending) (w' : World) : Prop :=
  ∃ A cap, e = .returned (.tuple #[.slice A n cap, .int .i64 c]) ∧ Hid (Own w' w.heap.size A n d) ∧ Below w.heap.size w w'
def ListAt (l : List Int) (w : World) (e : Ending) (w' : World) : Prop := SliceAt l.length (fun i => l.getD i 0) 0 w e w'
theorem list_of_row {l : List Int} {w w1 w' : World} {v : Value} (h : w'.ownsRow w1.heap.size 2 1 v l.length (nums l)) (h1 : w.heap.size ≤ w1.heap.size) (hb : Below w.heap.size w w') : ListAt l w (.returned (.tuple #[v, .int .i64 0])) w' := by
  rcases h.2 with ⟨rfl, h0⟩ | ⟨g, cap, cur, rfl, hbg, hh, _⟩
  · refine ⟨none, 0, ?_, Lib.hid fun h => absurd h (by omega), hb⟩
    rw [h0]
  · exact ⟨_, cap, rfl, Lib.hid fun _ => ⟨g, 0, rfl, by omega, lt_of_heap hh, fun i hi => by
      rw [Nat.zero_add, h.cellAt i (by omega)]
      simp [nums, hi], fun i => blk_free hh i⟩, hb⟩

set_option maxRecDepth 100000 in
set_option maxHeartbeats 4000000 in
theorem spec_yes (s : ByteArray) (b n d : Int) (s' : ByteArray) (b' n' d' f t : Int) (hs : s.size ≤ maxLen) (hs' : s'.size ≤ maxLen) (v : scB s b n d = true) (v' : scB s' b' n' d' = true) (h0 : inB f 0 120 = true) (h1 : inB t f 120 = true) (w : World) :
    Calls Try.prog 6 #[.agg #[.string s, .int .i64 b, .int .i64 n, .int .i64 d], .agg #[.string s', .int .i64 b', .int .i64 n', .int .i64 d'], .int .i64 f, .int .i64 t] w
      (ListAt (lostL b n d b' n' d' f (t - f + 1).toNat) w) := by
  obtain ⟨i0, hi0, hz0, hz1, hz2⟩ := info_parts info_int
  have HI := Lib.hid (And.intro hi0 (And.intro hz0 (And.intro hz1 hz2)))
  clear hi0 hz0 hz1 hz2
  have C := Lib.hid fun w => ok_any s b n d hs w
  have D := Lib.hid fun w => ok_any s' b' n' d' hs' w
  rw [v] at C
  rw [v'] at D
  have hv := sc_of v
  have hv' := sc_of v'
  have hf := in_of h0
  have ht := in_of h1
  have N1 := Lib.hid fun (h : Int) (hh : inB h 0 120 = true) w => (by
    obtain ⟨p1, p2, p3, p4⟩ := num_bd v hh
    exact spec_near s' b' n' d' ((h + b) * n) d v' p1 p2 p3 p4 w : Calls Try.prog 21 #[.agg #[.string s', .int .i64 b', .int .i64 n', .int .i64 d'], .int .i64 ((h + b) * n), .int .i64 d] w fun e w' => e = .returned (.int .i64 (conv b n d h b' n' d' : Int)) ∧ Below w.heap.size w w')
  have N2 := Lib.hid fun (h : Int) (hh : inB h 0 120 = true) w => (by
    obtain ⟨p1, p2, p3, p4⟩ := num_bd v' hh
    exact spec_near s b n d ((h + b') * n') d' v p1 p2 p3 p4 w : Calls Try.prog 21 #[.agg #[.string s, .int .i64 b, .int .i64 n, .int .i64 d], .int .i64 ((h + b') * n'), .int .i64 d'] w fun e w' => e = .returned (.int .i64 (conv b' n' d' h b n d : Int)) ∧ Below w.heap.size w w')
  have PB := Lib.hid fun (h : Int) (hh : inB h 0 120 = true) => num_bd v hh
  have PB' := Lib.hid fun (h : Int) (hh : inB h 0 120 = true) => num_bd v' hh
  have CB := Lib.hid fun (h : Int) => (by unfold conv nearest; exact cut_le _ _ : conv b n d h b' n' d' ≤ 120)
  have e1 : 0 ≤ b := by omega
  have e2 : b ≤ 100 := by omega
  have e1' : 0 ≤ b' := by omega
  have e2' : b' ≤ 100 := by omega
  have LL := Lib.hid fun k => lost_len b n d b' n' d' f k
  have LS : Hid (∀ k : Nat, lostL b n d b' n' d' f (k + 1) = if lost b n d b' n' d' (f + k) then lostL b n d b' n' d' f k ++ [f + k] else lostL b n d b' n' d' f k) := Lib.hid fun k => rfl
  have L0 : Hid (lostL b n d b' n' d' f 0 = []) := Lib.hid rfl
  have LD : Hid (∀ h, lost b n d b' n' d' h = decide ((conv b' n' d' (conv b n d h b' n' d') b n d : Int) ≠ h)) := Lib.hid fun h => rfl
  obtain ⟨m, hm⟩ : ∃ m : Nat, m = (t - f + 1).toNat := ⟨_, rfl⟩
  have hm1 : (m : Int) = t - f + 1 := by omega
  have HM := Lib.hid hm1
  rw [← hm]
  have m1 : 0 ≤ f := by omega
  have m2 : f ≤ 120 := by omega
  have m3 : f ≤ t := by omega
  have m4 : t ≤ 120 := by omega
  clear hv hv' hf ht v v' hs hs' hm hm1
  generalize hLL : lostL b n d b' n' d' f = L at LL LS L0 ⊢
  generalize lost b n d b' n' d' = Q at LS LD
  clear hLL
  go_enter Try.func6, Try.ntmps6
  go_wp2_with fail
  refine (C.out _).mono ?_
  rintro e w1 ⟨rfl, b1⟩
  obtain ⟨hb1, k1, r1⟩ := boxes2 b1
  have HB1 := Lib.hid hb1
  have KA1 := Lib.hid k1
  have KB1 := Lib.hid r1
  clear b1 hb1 k1 r1
  obtain ⟨y0, y1, y2, y3⟩ := blk4 KB1.out
  go_wp2_with fail
  refine (D.out _).mono ?_
  rintro e w2 ⟨rfl, b2⟩
  have HB2 := Lib.hid (below_then HB1.out b2)
  have KA2 := Lib.hid (blk_keep b2 KA1.out)
  have KB2 := Lib.hid (blk_keep b2 KB1.out)
  clear b2 y0 y1 y2 y3 HB1 KA1 KB1
  go_wp2_with (first | (go_at_call 19; refine (shalf_any _ _).mono ?_; rintro e w' ⟨rfl, rfl⟩) | (go_at_call 20; refine (Ba.in_any _ _ _ _).mono ?_; rintro e w' ⟨rfl, rfl⟩))
  have HW2 := HB2.out.size
  have HLen : Hid (∀ k, (L k).length ≤ k) := LL
  go_loopw [10, 11] (fun o i wr => ∃ (k : Nat) (v : Value), k ≤ m ∧ v = o ∧ i = .int .i64 (f + (k : Int)) ∧ Hid (Below w2.heap.size w2 wr) ∧ Hid (wr.ownsRow w2.heap.size 2 1 v (L k).length (nums (L k)))) (fun _ i _ => (121 - intOf i).toNat)
  case atStart => exact ⟨0, _, Nat.zero_le _, rfl, by simp, Lib.hid (below_box _ _), Lib.hid (by rw [L0.out]; exact World.ownsRow_made w2 #[] 0 (Nat.le_refl _) (by simp [maxLen]) rfl)⟩
  case round =>
    obtain ⟨k, v, hk, rfl, rfl, HB, HO⟩ := hrel
    have HBB := Lib.hid (below_then HB2.out HB.out)
    have hm' := HM.out
    by_cases hlt : k < m
    · obtain ⟨h, hh⟩ : ∃ h : Int, h = f + (k : Int) := ⟨_, rfl⟩
      have hle : h ≤ t := by omega
      have hr : inB h 0 120 = true := in_yes (by omega) (by omega)
      have g0 : 0 ≤ h := by omega
      have g1 : h ≤ 120 := by omega
      have HH := Lib.hid hh
      rw [← hh]
      have KA := Lib.hid (blk_keep HB.out KA2.out)
      have KB := Lib.hid (blk_keep HB.out KB2.out)
      have C1 := Lib.hid (N1.out h hr)
      have cb := CB.out h
      have C2 := Lib.hid (N2.out (conv b n d h b' n' d') (in_yes (by omega) (by omega)))
      have p := PB.out h hr
      have p' := PB'.out (conv b n d h b' n' d') (in_yes (by omega) (by omega))
      have QD := Lib.hid (LD.out h)
      have LSk := Lib.hid (LS.out k)
      rw [← hh] at LSk
      have cb2 : Hid ((conv b' n' d' (conv b n d h b' n' d') b n d : Int) ≤ 120) := Lib.hid (by unfold conv nearest; exact_mod_cast cut_le _ _)
      clear hh hm' hr
      generalize conv b n d h b' n' d' = there at C1 C2 cb p' QD cb2
      generalize conv b' n' d' there b n d = back at C2 QD cb2
      obtain ⟨p1, p2, p3, p4⟩ := p
      obtain ⟨p1', p2', p3', p4'⟩ := p'
      obtain ⟨x0, x1, x2, x3⟩ := blk4 KA.out
      obtain ⟨y0, y1, y2, y3⟩ := blk4 KB.out
      by_cases hq : (back : Int) = h
      · have hqe : ((back : Int) != h) = false := by simpa using hq
        have LK : Hid (L (k + 1) = L k) := Lib.hid (by rw [LSk.out, QD.out]; simp [hq])
        clear hq
        go_wp2_with fail
        refine (C1.out _).mono ?_
        rintro e w3 ⟨rfl, b3⟩
        have HB3 := Lib.hid (below_then HB.out b3)
        have HO3 := Lib.hid (row_below HO.out b3)
        have KA3 := Lib.hid (blk_keep b3 KA.out)
        have KB3 := Lib.hid (blk_keep b3 KB.out)
        clear b3 x0 x1 x2 x3 y0 y1 y2 y3
        obtain ⟨x0, x1, x2, x3⟩ := blk4 KA3.out
        obtain ⟨y0, y1, y2, y3⟩ := blk4 KB3.out
        go_wp2_with fail
        refine (C2.out _).mono ?_
        rintro e w4 ⟨rfl, b4⟩
        have HB4 := Lib.hid (below_then HB3.out b4)
        have HO4 := Lib.hid (row_below HO3.out b4)
        clear b4 x0 x1 x2 x3 y0 y1 y2 y3
        go_wp2_with fail
        go_roundw
        case rel => exact ⟨k + 1, v, by omega, rfl, by have := HH.out; rw [this]; go_num, HB4, Lib.hid (by rw [LK.out]; exact HO4.out)⟩
        case measure => simp [intOf]; omega
      · have hqe : ((back : Int) != h) = true := by simpa using hq
        have LK : Hid (L (k + 1) = L k ++ [h]) := Lib.hid (by rw [LSk.out, QD.out]; simp [hq])
        have hl := HLen.out k
        have hkb : k ≤ 121 := by have := HM.out; omega
        clear hq
        go_wp2_with fail
        refine (C1.out _).mono ?_
        rintro e w3 ⟨rfl, b3⟩
        have HB3 := Lib.hid (below_then HB.out b3)
        have HO3 := Lib.hid (row_below HO.out b3)
        have KA3 := Lib.hid (blk_keep b3 KA.out)
        have KB3 := Lib.hid (blk_keep b3 KB.out)
        clear b3 x0 x1 x2 x3 y0 y1 y2 y3
        obtain ⟨x0, x1, x2, x3⟩ := blk4 KA3.out
        obtain ⟨y0, y1, y2, y3⟩ := blk4 KB3.out
        go_wp2_with fail
        refine (C2.out _).mono ?_
        rintro e w4 ⟨rfl, b4⟩
        have HB4 := Lib.hid (below_then HB3.out b4)
        have HO4 := Lib.hid (row_below HO3.out b4)
        clear b4 x0 x1 x2 x3 y0 y1 y2 y3
        have hz := HB4.out.size
        go_wp2_with (at_builtin; refine wpList_append_own _ rfl (.tmp 61) (.tmp 63) 25 rfl w2.heap.size 2 i0 _ 1 8 Try.underlying25 HI.out.1 HI.out.2.1 HI.out.2.2.1 HI.out.2.2.2 rfl (by decide) v (L k).length (nums (L k)) rfl (HO4.out.alloc _) ⟨w4.heap.size, 0, none⟩ 1 1 [.int .i64 h] rfl rfl ?c1 ?c2 ?c3 ?c4 ?c5 ?_)
        case c1 => exact fun j u hu => by rw [Addr.add_lit, Nat.zero_add]; exact cell_one _ _ _ j u hu
        case c2 => simp [Value.oneCell']
        case c3 => unfold maxLen; omega
        case c4 => omega
        case c5 => simp; omega
        intro v' w5 hown hgrow _
        have HQ := Lib.hid ((HB4.out.alloc hz _).grown hgrow (by simp; omega) fun g hg => (HO4.out.lt g hg).1)
        have HO5 : Hid (w5.ownsRow w2.heap.size 2 1 v' (L (k + 1)).length (nums (L (k + 1)))) := Lib.hid (by rw [LK.out]; simpa [nums] using hown)
        clear hown hgrow
        go_wp2_with fail
        go_roundw
        case rel => exact ⟨k + 1, v', by omega, rfl, by have := HH.out; rw [this]; go_num, HQ, HO5⟩
        case measure => simp [intOf]; omega
    · obtain rfl : k = m := by omega
      have hgt : ¬ (f + (k : Int) ≤ t) := by omega
      have HF := Lib.hid (list_of_row HO.out HW2 HBB.out)
      clear hm' hk hlt
      go_wp2_with fail
      go_ret2
      exact HF.out
end Go.Proofs.Ytggbdpamjjgakac.Ls
