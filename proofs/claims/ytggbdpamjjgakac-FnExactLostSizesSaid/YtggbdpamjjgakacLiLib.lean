/- LostSizes: the program's loop. -/
import Derived.Test.YtggbdpamjjgakacLsLib
import Derived.Laws.StructEq
namespace Go.Proofs.Ytggbdpamjjgakac.Ls
open Go.RowKit Ba Nh Sc Fr Lh Sr Sw Hf Nr Cv Is

set_option maxRecDepth 100000 in
set_option maxHeartbeats 4000000 in
theorem impl_yes (s : ByteArray) (b n d : Int) (s' : ByteArray) (b' n' d' f t : Int) (hs : s.size ≤ maxLen) (hs' : s'.size ≤ maxLen) (v : scB s b n d = true) (v' : scB s' b' n' d' = true) (h0 : inB f 0 120 = true) (h1 : inB t f 120 = true) (w : World) :
    Calls Try.prog 8 #[.agg #[.string s, .int .i64 b, .int .i64 n, .int .i64 d], .agg #[.string s', .int .i64 b', .int .i64 n', .int .i64 d'], .int .i64 f, .int .i64 t] w
      (ListAt (lostL b n d b' n' d' f (t - f + 1).toNat) w) := by
  obtain ⟨i0, hi0, hz0, hz1, hz2⟩ := info_parts info_int
  have HI := Lib.hid (And.intro hi0 (And.intro hz0 (And.intro hz1 hz2)))
  clear hi0 hz0 hz1 hz2
  have C := Lib.hid fun w => impl_ok s b n d hs w
  have D := Lib.hid fun w => impl_ok s' b' n' d' hs' w
  rw [v] at C
  rw [v'] at D
  have hv := sc_of v
  have hv' := sc_of v'
  have hf := in_of h0
  have ht := in_of h1
  have N1 := Lib.hid fun (h : Int) (hh : inB h 0 120 = true) w => Cv.in_any s b n d h s' b' n' d' v v' hh w
  have N2 := Lib.hid fun (h : Int) (hh : inB h 0 120 = true) w => Cv.in_any s' b' n' d' h s b n d v' v hh w
  have CB := Lib.hid fun (h : Int) => (by unfold conv nearest; exact cut_le _ _ : conv b n d h b' n' d' ≤ 120)
  have e1 : 0 ≤ b := by omega
  have e2 : b ≤ 100 := by omega
  have e1' : 0 ≤ b' := by omega
  have e2' : b' ≤ 100 := by omega
  have LL := Lib.hid fun k => lost_len b n d b' n' d' f k
  have LS : Hid (∀ k : Nat, lostL b n d b' n' d' f (k + 1) = if lost b n d b' n' d' (f + k) then lostL b n d b' n' d' f k ++ [f + k] else lostL b n d b' n' d' f k) := Lib.hid fun k => rfl
  have L0 : Hid (lostL b n d b' n' d' f 0 = []) := Lib.hid rfl
  have LD : Hid (∀ h, lost b n d b' n' d' h = decide ((conv b' n' d' (conv b n d h b' n' d') b n d : Int) ≠ h)) := Lib.hid fun h => rfl
  obtain ⟨m, hm⟩ : ∃ m : Nat, m = (t - f + 1).toNat := ⟨_, rfl⟩
  have hm1 : (m : Int) = t - f + 1 := by omega
  have HM := Lib.hid hm1
  rw [← hm]
  have m1 : 0 ≤ f := by omega
  have m2 : f ≤ 120 := by omega
  have m3 : f ≤ t := by omega
  have m4 : t ≤ 120 := by omega
  clear hv hv' hf ht v v' hs hs' hm hm1
  generalize hLL : lostL b n d b' n' d' f = L at LL LS L0 ⊢
  generalize lost b n d b' n' d' = Q at LS LD
  clear hLL
  have hto : inB t 0 120 = true := in_yes (by omega) (by omega)
  go_enter Try.func8, Try.ntmps8
  go_wp2_with (go_at_call 22; refine (half_any _ _).mono ?_; rintro e w' ⟨rfl, rfl⟩)
  refine (C.out _).mono ?_
  rintro e w1 ⟨rfl, b1⟩
  obtain ⟨hb1, k1, r1⟩ := boxes2 b1
  have HB1 := Lib.hid hb1
  have KA1 := Lib.hid k1
  have KB1 := Lib.hid r1
  clear b1 hb1 k1 r1
  obtain ⟨y0, y1, y2, y3⟩ := blk4 KB1.out
  go_wp2_with fail
  refine (D.out _).mono ?_
  rintro e w2 ⟨rfl, b2⟩
  have HB2 := Lib.hid (below_then HB1.out b2)
  have KA2 := Lib.hid (blk_keep b2 KA1.out)
  have KB2 := Lib.hid (blk_keep b2 KB1.out)
  clear b2 y0 y1 y2 y3 HB1 KA1 KB1
  go_wp2_with (go_at_call 23; refine (arg_ok _).mono ?_; rintro e w' ⟨rfl, rfl⟩)
  have HW2 := HB2.out.size
  have HLen : Hid (∀ k, (L k).length ≤ k) := LL
  go_loopw [12, 13] (fun o i wr => ∃ (k : Nat) (v : Value), k ≤ m ∧ v = o ∧ i = .int .i64 (f + (k : Int)) ∧ Hid (Below w2.heap.size w2 wr) ∧ Hid (wr.ownsRow w2.heap.size 2 1 v (L k).length (nums (L k)))) (fun _ i _ => (121 - intOf i).toNat)
  case atStart => exact ⟨0, _, Nat.zero_le _, rfl, by simp, Lib.hid (Below.refl _ _), Lib.hid (by rw [L0.out]; exact World.ownsRow_nil _ _ _ _)⟩
  case round =>
    obtain ⟨k, v, hk, rfl, rfl, HB, HO⟩ := hrel
    have HBB := Lib.hid (below_then HB2.out HB.out)
    have hm' := HM.out
    by_cases hlt : k < m
    · obtain ⟨h, hh⟩ : ∃ h : Int, h = f + (k : Int) := ⟨_, rfl⟩
      have hle : h ≤ t := by omega
      have hr : inB h 0 120 = true := in_yes (by omega) (by omega)
      have g0 : 0 ≤ h := by omega
      have g1 : h ≤ 120 := by omega
      have HH := Lib.hid hh
      rw [← hh]
      have KA := Lib.hid (blk_keep HB.out KA2.out)
      have KB := Lib.hid (blk_keep HB.out KB2.out)
      have C1 := Lib.hid (N1.out h hr)
      have cb := CB.out h
      have C2 := Lib.hid (N2.out (conv b n d h b' n' d') (in_yes (by omega) (by omega)))
      have QD := Lib.hid (LD.out h)
      have LSk := Lib.hid (LS.out k)
      rw [← hh] at LSk
      have cb2 : Hid ((conv b' n' d' (conv b n d h b' n' d') b n d : Int) ≤ 120) := Lib.hid (by unfold conv nearest; exact_mod_cast cut_le _ _)
      clear hh hm' hr
      generalize conv b n d h b' n' d' = there at C1 C2 cb QD cb2
      generalize conv b' n' d' there b n d = back at C2 QD cb2
      obtain ⟨x0, x1, x2, x3⟩ := blk4 KA.out
      obtain ⟨y0, y1, y2, y3⟩ := blk4 KB.out
      by_cases hq : (back : Int) = h
      · have hqe := eq_true hq
        have LK : Hid (L (k + 1) = L k) := Lib.hid (by rw [LSk.out, QD.out]; simp [hq])
        clear hq
        have la := lt_of_heap KA.out
        have lb := lt_of_heap KB.out
        go_wp2_with fail
        have KT := Lib.hid (blk_new wr (.cells #[.string s, .int .i64 b, .int .i64 n, .int .i64 d, .int .i64 h] 46))
        have BT := below_box wr (.cells #[.string s, .int .i64 b, .int .i64 n, .int .i64 d, .int .i64 h] 46)
        have HBT := Lib.hid (below_then HB.out BT)
        have HOT := Lib.hid (row_below HO.out BT)
        have z0 := keep_of BT la x0
        have z1 := keep_of BT la x1
        have z2 := keep_of BT la x2
        have z3 := keep_of BT la x3
        have u0 := keep_of BT lb y0
        have u1 := keep_of BT lb y1
        have u2 := keep_of BT lb y2
        have u3 := keep_of BT lb y3
        have la1 := Nat.lt_of_lt_of_le la BT.size
        have lb1 := Nat.lt_of_lt_of_le lb BT.size
        clear x0 x1 x2 x3 y0 y1 y2 y3 BT
        generalize wr.alloc (.cells #[.string s, .int .i64 b, .int .i64 n, .int .i64 d, .int .i64 h] 46) = W1 at KT HBT HOT z0 z1 z2 z3 u0 u1 u2 u3 la1 lb1 ⊢
        have lt1 := lt_of_heap KT.out
        obtain ⟨⟨t0, t1, t2, t3⟩, t4⟩ := blk5 KT.out
        go_region_held3 (fun w' => w'.cell? ⟨w.heap.size, 0, none⟩ = some (.string s) ∧ w'.cell? ⟨w.heap.size, 1, none⟩ = some (.int .i64 b) ∧ w'.cell? ⟨w.heap.size, 2, none⟩ = some (.int .i64 n) ∧ w'.cell? ⟨w.heap.size, 3, none⟩ = some (.int .i64 d) ∧ w'.cell? ⟨w.heap.size + 1, 0, none⟩ = some (.string s') ∧ w'.cell? ⟨w.heap.size + 1, 1, none⟩ = some (.int .i64 b') ∧ w'.cell? ⟨w.heap.size + 1, 2, none⟩ = some (.int .i64 n') ∧ w'.cell? ⟨w.heap.size + 1, 3, none⟩ = some (.int .i64 d') ∧ w'.cell? ⟨wr.heap.size, 0, none⟩ = some (.string s) ∧ w'.cell? ⟨wr.heap.size, 1, none⟩ = some (.int .i64 b) ∧ w'.cell? ⟨wr.heap.size, 2, none⟩ = some (.int .i64 n) ∧ w'.cell? ⟨wr.heap.size, 3, none⟩ = some (.int .i64 d) ∧ w'.cell? ⟨wr.heap.size, 4, none⟩ = some (.int .i64 h))
          (first | (refine ⟨?_, ?_, ?_, ?_, ?_, ?_, ?_, ?_, ?_, ?_, ?_, ?_, ?_⟩ <;> (refine keep_of (w2 := W1) ?_ (by omega) (by assumption); (repeat (first | (with_reducible exact Below.refl _ _) | (with_reducible exact B1) | (with_reducible refine Below.drew ?_))))))
          (first | (go_at_call 25; (with_reducible refine (C1.out _).mono ?_); rintro e v1 ⟨rfl, b1⟩; have B1 := below_then (w0 := W1) ?_ b1; rotate_left; (focus (repeat (first | (with_reducible exact Below.refl _ _) | (with_reducible exact B1) | (with_reducible refine Below.drew ?_)))); clear b1; have q1 := B1.size) | (go_at_call 25; (with_reducible refine (C2.out _).mono ?_); rintro e v1 ⟨rfl, b1⟩; have B1 := below_then (w0 := W1) ?_ b1; rotate_left; (focus (repeat (first | (with_reducible exact Below.refl _ _) | (with_reducible exact B1) | (with_reducible refine Below.drew ?_)))); clear b1; have q1 := B1.size))
        have HB4 := Lib.hid (below_then HBT.out B1)
        have HO4 := Lib.hid (row_below HOT.out B1)
        obtain ⟨w4, hw4⟩ : ∃ w4 : World, w4 = v1 := ⟨_, rfl⟩
        subst hw4
        clear z0 z1 z2 z3 u0 u1 u2 u3 t0 t1 t2 t3 t4 la la1 lb lb1 lt1 B1 q1
        go_wp2_with fail
        go_roundw
        case rel => exact ⟨k + 1, v, by omega, rfl, by have := HH.out; rw [this]; go_num, HB4, Lib.hid (by rw [LK.out]; exact HO4.out)⟩
        case measure => simp [intOf]; omega
      · have hqe := eq_false hq
        have LK : Hid (L (k + 1) = L k ++ [h]) := Lib.hid (by rw [LSk.out, QD.out]; simp [hq])
        have hl := HLen.out k
        have hkb : k ≤ 121 := by have := HM.out; omega
        clear hq
        have la := lt_of_heap KA.out
        have lb := lt_of_heap KB.out
        go_wp2_with fail
        have KT := Lib.hid (blk_new wr (.cells #[.string s, .int .i64 b, .int .i64 n, .int .i64 d, .int .i64 h] 46))
        have BT := below_box wr (.cells #[.string s, .int .i64 b, .int .i64 n, .int .i64 d, .int .i64 h] 46)
        have HBT := Lib.hid (below_then HB.out BT)
        have HOT := Lib.hid (row_below HO.out BT)
        have z0 := keep_of BT la x0
        have z1 := keep_of BT la x1
        have z2 := keep_of BT la x2
        have z3 := keep_of BT la x3
        have u0 := keep_of BT lb y0
        have u1 := keep_of BT lb y1
        have u2 := keep_of BT lb y2
        have u3 := keep_of BT lb y3
        have la1 := Nat.lt_of_lt_of_le la BT.size
        have lb1 := Nat.lt_of_lt_of_le lb BT.size
        clear x0 x1 x2 x3 y0 y1 y2 y3 BT
        generalize wr.alloc (.cells #[.string s, .int .i64 b, .int .i64 n, .int .i64 d, .int .i64 h] 46) = W1 at KT HBT HOT z0 z1 z2 z3 u0 u1 u2 u3 la1 lb1 ⊢
        have lt1 := lt_of_heap KT.out
        obtain ⟨⟨t0, t1, t2, t3⟩, t4⟩ := blk5 KT.out
        go_region_held3 (fun w' => w'.cell? ⟨w.heap.size, 0, none⟩ = some (.string s) ∧ w'.cell? ⟨w.heap.size, 1, none⟩ = some (.int .i64 b) ∧ w'.cell? ⟨w.heap.size, 2, none⟩ = some (.int .i64 n) ∧ w'.cell? ⟨w.heap.size, 3, none⟩ = some (.int .i64 d) ∧ w'.cell? ⟨w.heap.size + 1, 0, none⟩ = some (.string s') ∧ w'.cell? ⟨w.heap.size + 1, 1, none⟩ = some (.int .i64 b') ∧ w'.cell? ⟨w.heap.size + 1, 2, none⟩ = some (.int .i64 n') ∧ w'.cell? ⟨w.heap.size + 1, 3, none⟩ = some (.int .i64 d') ∧ w'.cell? ⟨wr.heap.size, 0, none⟩ = some (.string s) ∧ w'.cell? ⟨wr.heap.size, 1, none⟩ = some (.int .i64 b) ∧ w'.cell? ⟨wr.heap.size, 2, none⟩ = some (.int .i64 n) ∧ w'.cell? ⟨wr.heap.size, 3, none⟩ = some (.int .i64 d) ∧ w'.cell? ⟨wr.heap.size, 4, none⟩ = some (.int .i64 h))
          (first | (refine ⟨?_, ?_, ?_, ?_, ?_, ?_, ?_, ?_, ?_, ?_, ?_, ?_, ?_⟩ <;> (refine keep_of (w2 := W1) ?_ (by omega) (by assumption); (repeat (first | (with_reducible exact Below.refl _ _) | (with_reducible exact B1) | (with_reducible refine Below.drew ?_))))))
          (first | (go_at_call 25; (with_reducible refine (C1.out _).mono ?_); rintro e v1 ⟨rfl, b1⟩; have B1 := below_then (w0 := W1) ?_ b1; rotate_left; (focus (repeat (first | (with_reducible exact Below.refl _ _) | (with_reducible exact B1) | (with_reducible refine Below.drew ?_)))); clear b1; have q1 := B1.size) | (go_at_call 25; (with_reducible refine (C2.out _).mono ?_); rintro e v1 ⟨rfl, b1⟩; have B1 := below_then (w0 := W1) ?_ b1; rotate_left; (focus (repeat (first | (with_reducible exact Below.refl _ _) | (with_reducible exact B1) | (with_reducible refine Below.drew ?_)))); clear b1; have q1 := B1.size))
        have HB4 := Lib.hid (below_then HBT.out B1)
        have HO4 := Lib.hid (row_below HOT.out B1)
        obtain ⟨w4, hw4⟩ : ∃ w4 : World, w4 = v1 := ⟨_, rfl⟩
        subst hw4
        clear z0 z1 z2 z3 u0 u1 u2 u3 t0 t1 t2 t3 t4 la la1 lb lb1 lt1 B1 q1
        have hz := HB4.out.size
        go_wp2_with (at_builtin; refine wpList_append_own _ rfl (.tmp 53) (.tmp 55) 25 rfl w2.heap.size 2 i0 _ 1 8 Try.underlying25 HI.out.1 HI.out.2.1 HI.out.2.2.1 HI.out.2.2.2 rfl (by decide) v (L k).length (nums (L k)) rfl (HO4.out.alloc _) ⟨w4.heap.size, 0, none⟩ 1 1 [.int .i64 h] rfl rfl ?c1 ?c2 ?c3 ?c4 ?c5 ?_)
        case c1 => exact fun j u hu => by rw [Addr.add_lit, Nat.zero_add]; exact cell_one _ _ _ j u hu
        case c2 => simp [Value.oneCell']
        case c3 => unfold maxLen; omega
        case c4 => omega
        case c5 => simp; omega
        intro v' w5 hown hgrow _
        have HQ := Lib.hid ((HB4.out.alloc hz _).grown hgrow (by simp; omega) fun g hg => (HO4.out.lt g hg).1)
        have HO5 : Hid (w5.ownsRow w2.heap.size 2 1 v' (L (k + 1)).length (nums (L (k + 1)))) := Lib.hid (by rw [LK.out]; simpa [nums] using hown)
        clear hown hgrow
        go_wp2_with fail
        go_roundw
        case rel => exact ⟨k + 1, v', by omega, rfl, by have := HH.out; rw [this]; go_num, HQ, HO5⟩
        case measure => simp [intOf]; omega
    · obtain rfl : k = m := by omega
      have hgt : ¬ (f + (k : Int) ≤ t) := by omega
      have HF := Lib.hid (list_of_row HO.out HW2 HBB.out)
      clear hm' hk hlt
      go_wp2_with fail
      go_ret2
      exact HF.out
end Go.Proofs.Ytggbdpamjjgakac.Ls
