/- Decimal forms: the walk of the spec's loop over the digits. -/
import Derived.Test.YtgclhkiiaclkgacDoorDcLib
namespace Go.Proofs.YtgclhkiiaclkgacDoor.Ds
open Go.RowKit Ba Go.Lib Dc

set_option maxRecDepth 100000 in
set_option maxHeartbeats 2000000 in
theorem dec_any (n : Int) (h0 : -9223372036854775808 ≤ n) (h1 : n ≤ 9223372036854775807) (w : World) : Calls Tryd.prog 10 #[.int .i64 n] w fun e w' => e = .returned (.string ⟨(itoa n).toArray⟩) ∧ Below w.heap.size w w' := by
  obtain ⟨i0, hi0, hz0, hz1, hz2⟩ := info_parts info_u8
  have HI := Lib.hid (And.intro hi0 (And.intro hz0 (And.intro hz1 hz2)))
  clear hi0 hz0 hz1 hz2
  have HB := Lib.hid (And.intro h0 h1)
  go_enter Tryd.func10, Tryd.ntmps10
  go_wp2_with fail
  go_loopw [3, 4] (fun s3 s4 wr => ∃ (k : Int) (L : List UInt8) (g cap : Nat), s4 = .int .i64 k ∧ s3 = .slice (some ⟨g, 0, none⟩) L.length cap ∧ L.length ≤ 19 ∧ g < wr.heap.size ∧ Hid (BytesAt wr g L) ∧ Hid (Below w.heap.size w wr) ∧
    Hid (Dg n.natAbs k.natAbs L ∧ (0 ≤ n → 0 ≤ k ∧ k ≤ n) ∧ (n ≤ 0 → k ≤ 0 ∧ n ≤ k))) (fun _ s4 _ => (intOf s4).natAbs)
  case atStart => exact ⟨n, [], _, _, rfl, rfl, by simp, by simp, Lib.hid fun j hj => by simp at hj, Lib.hid (below_box _ _), Lib.hid ⟨dg_start _, fun h => ⟨h, Int.le_refl _⟩, fun h => ⟨h, Int.le_refl _⟩⟩⟩
  case round =>
    obtain ⟨k, L, g, cap, rfl, rfl, hL, hg, hby, hbel, hdg⟩ := hrel
    by_cases hk : k = 0
    · subst hk
      have hd := hdg.out.1.1 rfl
      have CV := conv_bytes wr g cap L hby.out
      have CC := Lib.hid CV
      clear CV
      by_cases hz : n = 0
      · obtain rfl : L = [] := by
          rcases hd with ⟨_, h⟩ | ⟨h, _⟩
          · exact h
          · omega
        subst hz
        have HE := Lib.hid itoa_zero
        clear hd CC
        go_wp2_with fail
        go_ret
        exact ⟨by rw [HE.out]; rfl, hbel.out⟩
      · have hL2 : L = decDigits n.natAbs := by
          rcases hd with ⟨h, _⟩ | ⟨_, h⟩
          · omega
          · exact h
        have hl0 : 0 < L.length := by rw [hL2, decDigits_length]; exact nDigits_pos _
        have hl1 : (L.length == 0) = false := beq_eq_false_iff_ne.2 (by omega)
        by_cases hneg : n < 0
        · have HE := Lib.hid (itoa_neg hneg hL2)
          have C1 := CC.out
          clear hd hL2 hz CC
          go_wp2_with fail
          go_ret
          exact ⟨ret_str ((cat45 L).trans (by rw [HE.out])), hbel.out⟩
        · have HE := Lib.hid (itoa_pos (by omega) hL2)
          have C1 := CC.out
          clear hd hL2 hz CC
          go_wp2_with fail
          go_ret
          exact ⟨ret_str (by rw [HE.out]), hbel.out⟩
    · have hlen : L.length ≤ 18 := dg_len hdg.out.1 (by omega) (by have := HB.out; omega)
      have hkb : -9223372036854775808 ≤ k ∧ k ≤ 9223372036854775807 := by
        have := HB.out; have := hdg.out.2; omega
      obtain ⟨kb1, kb2⟩ := hkb
      have hne : (k != 0) = true := by simpa using hk
      have NX := Lib.hid (dg_step hdg.out.1 (show k.natAbs ≠ 0 by omega))
      have SG := Lib.hid hdg.out.2
      clear hdg
      by_cases hpos : 0 < k
      · have e0 : 0 ≤ k := by omega
        have m1 : 0 ≤ k % 10 := by omega
        have m2 : k % 10 ≤ 9 := by omega
        have m3 : ¬ k % 10 < 0 := by omega
        clear hk
        go_wp2_with (at_builtin; refine wpList_append_own _ rfl (.tmp 21) (.tmp 22) 36 rfl wr.heap.size 5 i0 _ 1 1 Tryd.underlying36 HI.out.1 HI.out.2.1 HI.out.2.2.1 HI.out.2.2.2 rfl (by decide) _ 1 _ rfl (World.ownsRow_lit wr #[.int .u8 (48 + k % 10)] 1 (Nat.le_refl _) (by simp [maxLen]) (by simp)) ⟨g, 0, none⟩ L.length cap (bys L) rfl (by simp [bys]) ?c1 ?c2 ?c3 ?c4 ?c5 ?_)
        case c1 => exact hby.out.news'
        case c2 => exact bys_one
        case c3 => unfold maxLen; omega
        case c4 => omega
        intro v' w1 hown hgrow _
        obtain ⟨g', cap', rfl, hge, hg'⟩ := hown.form (by omega)
        have HC := Lib.hid (row_bytes (c := UInt8.ofNat (48 + k.natAbs % 10)) hown (by rw [dig_val (by omega)]; omega))
        have HQ := Lib.hid ((hbel.out.alloc hbel.out.size _).grown hgrow (by simp; have := hbel.out.size; omega) fun g hg => by simp [Value.ownBlock] at hg; have := hbel.out.size; omega)
        clear hown hgrow hge hby hbel
        have q1 : 0 ≤ k / 10 := by omega
        have q2 : k / 10 ≤ k := by omega
        have q3 : (k / 10).natAbs = k.natAbs / 10 := by omega
        have H3 := Lib.hid q3
        clear q3
        go_wp2_with fail
        go_roundw
        case rel => exact ⟨k / 10, UInt8.ofNat (48 + k.natAbs % 10) :: L, g', cap', rfl, by rw [List.length_cons, Nat.add_comm], by rw [List.length_cons]; omega, hg', HC, HQ, Lib.hid ⟨by rw [H3.out]; exact NX.out, by have := SG.out; omega, by have := SG.out; omega⟩⟩
        case measure => simp [intOf]; omega
      · have hneg : k < 0 := by omega
        have TM := Lib.hid (tm_neg hneg)
        have TD := Lib.hid (td_neg hneg)
        have w1 : -922337203685477580 ≤ k.tdiv 10 := by have := TD.out; omega
        have w2 : k.tdiv 10 ≤ 0 := by have := TD.out; omega
        by_cases hr : k.tmod 10 < 0
        · have m1 : -9 ≤ k.tmod 10 := by have := TM.out; omega
          clear hk
          go_wp2_with (at_builtin; refine wpList_append_own _ rfl (.tmp 21) (.tmp 22) 36 rfl wr.heap.size 5 i0 _ 1 1 Tryd.underlying36 HI.out.1 HI.out.2.1 HI.out.2.2.1 HI.out.2.2.2 rfl (by decide) _ 1 _ rfl (World.ownsRow_lit wr #[.int .u8 (48 + -k.tmod 10)] 1 (Nat.le_refl _) (by simp [maxLen]) (by simp)) ⟨g, 0, none⟩ L.length cap (bys L) rfl (by simp [bys]) ?d1 ?d2 ?d3 ?d4 ?d5 ?_)
          case d1 => exact hby.out.news'
          case d2 => exact bys_one
          case d3 => unfold maxLen; omega
          case d4 => omega
          intro v' w1 hown hgrow _
          obtain ⟨g', cap', rfl, hge, hg'⟩ := hown.form (by omega)
          have HC := Lib.hid (row_bytes (c := UInt8.ofNat (48 + k.natAbs % 10)) hown (by rw [dig_val (by omega)]; have := TM.out; omega))
          have HQ := Lib.hid ((hbel.out.alloc hbel.out.size _).grown hgrow (by simp; have := hbel.out.size; omega) fun g hg => by simp [Value.ownBlock] at hg; have := hbel.out.size; omega)
          clear hown hgrow hge hby hbel
          have TD1 := TD.out
          have q3 : (k.tdiv 10).natAbs = k.natAbs / 10 := by omega
          have q4 : Hid (k ≤ k.tdiv 10 ∧ k.tdiv 10 ≤ 0) := Lib.hid (by omega)
          have H3 := Lib.hid q3
          clear q3 TD1
          go_wp2_with fail
          go_roundw
          case rel => exact ⟨k.tdiv 10, UInt8.ofNat (48 + k.natAbs % 10) :: L, g', cap', rfl, by rw [List.length_cons, Nat.add_comm], by rw [List.length_cons]; omega, hg', HC, HQ, Lib.hid ⟨by rw [H3.out]; exact NX.out, by have := SG.out; have := q4.out; omega, by have := SG.out; have := q4.out; omega⟩⟩
          case measure => have := H3.out; simp only [intOf]; omega
        · have m1 : 0 ≤ k.tmod 10 := by omega
          have m2 : k.tmod 10 ≤ 0 := by have := TM.out; omega
          clear hk
          go_wp2_with (at_builtin; refine wpList_append_own _ rfl (.tmp 21) (.tmp 22) 36 rfl wr.heap.size 5 i0 _ 1 1 Tryd.underlying36 HI.out.1 HI.out.2.1 HI.out.2.2.1 HI.out.2.2.2 rfl (by decide) _ 1 _ rfl (World.ownsRow_lit wr #[.int .u8 (48 + k.tmod 10)] 1 (Nat.le_refl _) (by simp [maxLen]) (by simp)) ⟨g, 0, none⟩ L.length cap (bys L) rfl (by simp [bys]) ?e1 ?e2 ?e3 ?e4 ?e5 ?_)
          case e1 => exact hby.out.news'
          case e2 => exact bys_one
          case e3 => unfold maxLen; omega
          case e4 => omega
          intro v' w1 hown hgrow _
          obtain ⟨g', cap', rfl, hge, hg'⟩ := hown.form (by omega)
          have HC := Lib.hid (row_bytes (c := UInt8.ofNat (48 + k.natAbs % 10)) hown (by rw [dig_val (by omega)]; have := TM.out; omega))
          have HQ := Lib.hid ((hbel.out.alloc hbel.out.size _).grown hgrow (by simp; have := hbel.out.size; omega) fun g hg => by simp [Value.ownBlock] at hg; have := hbel.out.size; omega)
          clear hown hgrow hge hby hbel
          have TD1 := TD.out
          have q3 : (k.tdiv 10).natAbs = k.natAbs / 10 := by omega
          have q4 : Hid (k ≤ k.tdiv 10 ∧ k.tdiv 10 ≤ 0) := Lib.hid (by omega)
          have H3 := Lib.hid q3
          clear q3 TD1
          go_wp2_with fail
          go_roundw
          case rel => exact ⟨k.tdiv 10, UInt8.ofNat (48 + k.natAbs % 10) :: L, g', cap', rfl, by rw [List.length_cons, Nat.add_comm], by rw [List.length_cons]; omega, hg', HC, HQ, Lib.hid ⟨by rw [H3.out]; exact NX.out, by have := SG.out; have := q4.out; omega, by have := SG.out; have := q4.out; omega⟩⟩
          case measure => have := H3.out; simp only [intOf]; omega
end Go.Proofs.YtgclhkiiaclkgacDoor.Ds
