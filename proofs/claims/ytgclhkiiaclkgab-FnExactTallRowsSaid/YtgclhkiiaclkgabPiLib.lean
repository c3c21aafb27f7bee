/- Blocks on a roll: the program's TallRows. -/
import Derived.Test.YtgclhkiiaclkgabTwLib
import Derived.Test.YtgclhkiiaclkgabPjLib
import Derived.Deep.LoopGhost
namespace Go.Proofs.Ytgclhkiiaclkgab.Pi
set_option linter.unusedVariables false
open Go.RowKit Is Ge Qb Jr Js Jt Jw Jx Pa P5 Pb Pc Pd Pj To Tq Tr Tu Tv Tw
open Go.Proofs.Ytgclhkiiaclkgab.Ba (inB below_then below_box)

theorem fieldN (g : Nat → Int) (y : Nat) (w : World) : (Instr.field 106 (tbV g y) 1).run Try.prog w = .ok (.int .i64 (y : Int)) w := by kernel_rfl
theorem assertN (t : TypeId) (g : Nat → Int) (y : Nat) (w : World) : (Instr.typeAssert (.iface 106 (tbV g y)) t 106 false).run Try.prog w = .ok (tbV g y) w := by kernel_rfl
theorem row_fr {w w' : World} {hb x B n size : Nat} {e : TypeId} {v : Value} {xs : List Value} (h : w.ownsRow B e size v n xs) (f : Fr2 hb x w w') (h1 : hb < B) (h2 : x < B) : w'.ownsRow B e size v n xs :=
  ⟨h.1, by
    rcases h.2 with h0 | ⟨g', cap', cur, rfl, hbg, hh, r⟩
    · exact .inl h0
    · exact .inr ⟨g', cap', cur, rfl, hbg, (f.block g' (Ge.lt_of_heap hh) (by omega) (by omega)).trans hh, r⟩⟩
theorem row_gr {w w' : World} {B n size OB : Nat} {e : TypeId} {v : Value} {xs : List Value} {ob : Option Nat} (h : w.ownsRow B e size v n xs) (hg : w.grownBy w' ob) (h1 : ∀ y, v.ownBlock = some y → y < OB) (h2 : ∀ y, ob = some y → OB ≤ y) : w'.ownsRow B e size v n xs :=
  ⟨h.1, by
    rcases h.2 with h0 | ⟨g', cap', cur, rfl, hbg, hh, r⟩
    · exact .inl h0
    · exact .inr ⟨g', cap', cur, rfl, hbg, (hg.block g' (Ge.lt_of_heap hh) (fun q => by have := h1 g' rfl; have := h2 g' q.symm; omega)).trans hh, r⟩⟩
/-- Blocks put on the heap so far. -/
structure Bt (w wr : World) (g : Nat → Int) (hb r : Nat) (A : Option Addr) (n c : Nat) (roll : Int) (nb : Nat) : Prop where
  bel : Below w.heap.size w wr
  nst : wr.heap[nb]? = some (neO A n c roll)
  hp : ∃ v o, wr.heap[hb]? = some (.cells #[v] 102 (0, 0)) ∧ Hr wr (hb + 1) g v r o ∧ HP g o r ∧ Inj o r ∧ ∀ z, In o r z ↔ z < r
set_option maxRecDepth 100000 in
set_option maxHeartbeats 8000000 in
theorem itall (A : Option Addr) (n c : Nat) (g : Nat → Int) (roll : Int) (hn : n ≤ 9) (w : World) (hA : Nums w w.heap.size A (n * 2) g) :
    Calls Try.prog 71 #[neV A n c roll] w fun e w' => ∃ P pc, e = .returned (.slice P n pc) ∧ Nums w' w'.heap.size P n (fun j => (N2.ord g n j : Int)) ∧ Below w.heap.size w w' := by
  have HA := Lib.hid hA
  have HMK := Lib.hid (fun w => make_rowi n (by omega) w)
  obtain ⟨i0, hi0, hz0, hz1, hz2⟩ := info_parts info_i
  have HIn := Lib.hid (And.intro hi0 (And.intro hz0 (And.intro hz1 hz2)))
  clear hi0 hz0 hz1 hz2
  have n0 : (0 : Int) ≤ (n : Int) := Int.natCast_nonneg _
  have B0 : Hid (Bt w ((w.alloc (neO A n c roll)).alloc (.cells #[.slice none 0 0] 102)) g (w.heap.size + 1) 0 A n c roll w.heap.size) := Lib.hid (by
    obtain ⟨k1, k2⟩ := two w (neO A n c roll) (.cells #[.slice none 0 0] 102)
    exact ⟨below2 w _ _, k1, _, fun _ => 0, k2, ⟨rfl, .inl ⟨rfl, rfl⟩⟩, fun c h0 h1 => by omega, fun i j h0 => by omega, fun z => ⟨fun ⟨k, hk, _⟩ => by omega, fun h => by omega⟩⟩)
  go_enter Try.func71, Try.ntmps71
  go_upto_region 2 with fail
  generalize hw9 : World.alloc _ _ = w1 at B0 ⊢
  clear hw9
  obtain ⟨z0, z1⟩ := blk2 B0.out.nst
  generalize hnb : w.heap.size = nb at *
  go_wp2_with fail
  clear z0 z1
  go_loopw [4, 5, 10] (fun _ _ i wr => ∃ r : Nat, r ≤ n ∧ i = .int .i64 (r : Int) ∧ Hid (Bt w wr g (nb + 1) r A n c roll nb)) (fun _ _ i _ => n - (intOf i).toNat)
  case atStart => exact ⟨0, Nat.zero_le _, rfl, B0⟩
  case round =>
    clear B0
    obtain ⟨r, hr, rfl, B⟩ := hrel
    have r0 : (0 : Int) ≤ (r : Int) := Int.natCast_nonneg _
    obtain ⟨v, o, k1, k2, k3, k4, k5⟩ := B.out.hp
    by_cases hlt : r < n
    · obtain ⟨bl, ol, eA, hbl, hcl⟩ := (HA.out.below B.out.bel (by omega)) (by omega)
      subst eA
      obtain ⟨x0, x1⟩ := Blk.cells_at hcl hlt
      have r1 : (r : Int) < (n : Int) := by omega
      have bb := below_box wr (blO (g (r * 2)) (g (r * 2 + 1)))
      have C1 := Lib.hid (hpush g (nb + 1) v r r o (by omega) _ (Ge.blk_keep bb k1) (Ge.row_below k2 bb) k3 k4 (fun h => by have := (k5 r).1 h; omega))
      have HBB := Lib.hid (below_then B.out.bel bb)
      have HN := Lib.hid (Ge.blk_keep bb B.out.nst)
      have K5 := Lib.hid k5
      have kb := heap_alloc_new wr (blO (g (r * 2)) (g (r * 2 + 1)))
      have y0 := cell_of_row _ _ 0 _ _ _ kb
      have y1 := cell_of_row _ _ 1 _ _ _ kb
      clear bb kb hcl k1 k2 k3 k4 k5 B
      unfold tbV at C1
      go_wp2_with fail
      refine C1.out.mono ?_
      rintro e w3 ⟨rfl, x', cap', o', H3, P3, B3⟩
      have BT : Hid (Bt w w3 g (nb + 1) (r + 1) (some ⟨bl, ol, none⟩) n c roll nb) := Lib.hid ⟨HBB.out.trans (B3.out.mono (by omega)), (B3.out.block nb (Nat.lt_succ_self nb)).trans HN.out, _, o', H3.out.box, H3.out.row, P3.out.1, P3.out.2.1, fun z => (P3.out.2.2 z).trans (by rw [K5.out]; omega)⟩
      clear C1 HBB HN K5 H3 P3 B3 x0 x1 y0 y1
      go_wp2_with fail
      go_roundw
      case rel => exact ⟨r + 1, by omega, by go_num, BT⟩
      case measure => simp [intOf]; omega
    · obtain rfl : r = n := by omega
      obtain ⟨z0, z1⟩ := blk2 B.out.nst
      have hm := HMK.out wr
      have bz := below_box wr (.cells (Go.madeCells #[Value.int .i64 0] r) 3)
      have R0 := Lib.hid (row_starti wr r (by omega) (fun j => (N2.ord g r j : Int)))
      have BB := Lib.hid (below_then B.out.bel bz)
      have hx : ∀ y, v.ownBlock = some y → nb + 2 ≤ y ∧ y < wr.heap.size := fun y e => by
        rcases k2.2 with ⟨rfl, _⟩ | ⟨g', cap', cur, rfl, hbg, hh, _⟩
        · cases e
        · cases e; exact ⟨hbg, Ge.lt_of_heap hh⟩
      have hbz := Ge.lt_of_heap k1
      have G0 : Hid (((wr.alloc (.cells (Go.madeCells #[Value.int .i64 0] r) 3)).heap[nb + 1]? = some (.cells #[v] 102 (0, 0)) ∧ Hr (wr.alloc (.cells (Go.madeCells #[Value.int .i64 0] r) 3)) (nb + 2) g v (r - 0) o) ∧ (HP g o (r - 0) ∧ Inj o (r - 0) ∧ To.Left g r 0 o) ∧ ∀ y, v.ownBlock = some y → y < wr.heap.size) := Lib.hid ⟨⟨Ge.blk_keep bz k1, Ge.row_below k2 bz⟩, ⟨k3, k4, To.left_start k5⟩, fun y e => (hx y e).2⟩
      have hs0 : wr.heap.size ≤ (wr.alloc (.cells (Go.madeCells #[Value.int .i64 0] r) 3)).heap.size := bz.size
      clear bz k1 k2 k3 k4 k5 HMK hx
      go_wp2_with fail
      try clear z0 z1 hm
      have hbB : nb + 1 < wr.heap.size := hbz
      generalize hwz : World.alloc wr _ = wz at G0 R0 BB hs0 ⊢
      clear hwz
      generalize wr.heap.size = OB at *
      have HOR := Lib.hid (fun k => upto_snoc (fun j => (N2.ord g r j : Int)) k)
      generalize hup : upto (fun j => (N2.ord g r j : Int)) = UP at R0 HOR
      go_loopg [6] r (fun kx ov wr => ∃ (t : Nat) (v u : Value) (o : Nat → Nat), t ≤ r ∧ r - t ≤ kx ∧ u = ov ∧ Hid (Below nb w wr) ∧ Hid (wr.ownsRow OB 3 1 u t (UP t)) ∧ Hid ((wr.heap[nb + 1]? = some (.cells #[v] 102 (0, 0)) ∧ Hr wr (nb + 2) g v (r - t) o) ∧ (HP g o (r - t) ∧ Inj o (r - t) ∧ To.Left g r t o) ∧ ∀ y, v.ownBlock = some y → y < OB) ∧ OB ≤ wr.heap.size)
      case atStart => exact ⟨0, v, _, o, Nat.zero_le _, by omega, rfl, (by rw [← hnb]; exact BB), R0, G0, hs0⟩
      case round =>
        clear BB R0 G0 hs0
        obtain ⟨t, v, u, o, ht, hkx, rfl, HB, HU, HG, hsz⟩ := hrel
        obtain ⟨⟨k1, k2⟩, ⟨k3, k4, k5⟩, k6⟩ := HG.out
        by_cases hlt : t < r
        · obtain ⟨m, hm⟩ : ∃ m, r - t = m + 1 := ⟨r - t - 1, by omega⟩
          have h0 := To.left_top k5 hlt k3
          rw [hm] at k2 k3 k4
          obtain ⟨x, cap, cur, rfl, hBx, hxs, _⟩ := k2.slice (by omega)
          have hxO : x < OB := k6 x rfl
          have z0 : wr.cell? ⟨nb + 1, 0, none⟩ = some (.slice (some ⟨x, 0, none⟩) (m + 1) cap) := cell_of_row _ _ 0 _ _ _ k1
          have CL := Lib.hid (len_any (some ⟨x, 0, none⟩) (m + 1) cap wr)
          have C1 := Lib.hid (hpop g (nb + 1) x cap m o (by omega) wr ⟨k1, k2⟩ k3 k4)
          have K5 := Lib.hid (And.intro k5 k4)
          rw [h0] at C1
          have ta := fun q w => assertN q g (N2.ord g r t) w
          have fd := fun w => fieldN g (N2.ord g r t) w
          have HUP := Lib.hid (HOR.out t)
          clear k1 k2 k3 k4 k5 HG
          go_wp2_with fail
          refine CL.out.mono ?_
          rintro e w2 ⟨rfl, rfl⟩
          go_wp2_with fail
          refine C1.out.mono ?_
          rintro e w3 ⟨rfl, o', H3, P3, F3⟩
          have HU3 := Lib.hid (row_fr HU.out F3.out (by omega) hxO)
          have B3 := Lib.hid (HB.out.trans (F3.out.below (B := nb) (by omega) (by omega) (by omega)))
          have hs3 := F3.out.size
          clear CL C1 z0 HU HB F3
          go_wp2_with (at_builtin; refine wpList_append_own _ rfl _ _ 78 rfl OB 3 i0 _ 1 8 Try.underlying78 HIn.out.1 HIn.out.2.1 HIn.out.2.2.1 HIn.out.2.2.2 rfl (by decide) _ _ _ rfl (HU3.out.alloc _) ⟨w3.heap.size, 0, none⟩ 1 1 [.int .i64 (N2.ord g r t : Int)] rfl rfl ?c1 ?c2 ?c3 ?c4 ?c5 ?_)
          try case c1 => exact Ow.cell_new _ _ _
          try case c2 => simp [Value.oneCell']
          try case c3 => unfold maxLen; omega
          try case c4 => omega
          try case c5 => first | omega | (simp <;> omega)
          intro v' w6 hown2 hgrow _
          have hbo := below_box w3 (.cells #[.int .i64 (N2.ord g r t : Int)] 3)
          have hob : ∀ y, u.ownBlock = some y → OB ≤ y := fun y e => (HU3.out.lt y e).1
          have HB6 := Lib.hid ((B3.out.trans (hbo.mono (by omega))).grown hgrow (by simp; omega) fun y e => by have := hob y e; omega)
          have HU6 : Hid (w6.ownsRow OB 3 1 v' (t + 1) (UP (t + 1))) := Lib.hid (by rw [HUP.out]; exact hown2)
          have hx6 : w6.heap[nb + 1]? = some (.cells #[.slice (some ⟨x, 0, none⟩) m cap] 102 (0, 0)) := (hgrow.block (nb + 1) (by simp; omega) (fun q => by have := hob _ q.symm; omega)).trans (Ge.blk_keep hbo H3.out.box)
          have hr6 : Hr w6 (nb + 2) g (.slice (some ⟨x, 0, none⟩) m cap) m o' := row_gr (OB := OB) (Ge.row_below H3.out.row hbo) hgrow (fun y e => by cases e; exact hxO) hob
          have hm2 : r - (t + 1) = m := by omega
          have HG6 : Hid ((w6.heap[nb + 1]? = some (.cells #[.slice (some ⟨x, 0, none⟩) m cap] 102 (0, 0)) ∧ Hr w6 (nb + 2) g (.slice (some ⟨x, 0, none⟩) m cap) (r - (t + 1)) o') ∧ (HP g o' (r - (t + 1)) ∧ Inj o' (r - (t + 1)) ∧ To.Left g r (t + 1) o') ∧ ∀ y, (Value.slice (some ⟨x, 0, none⟩) m cap).ownBlock = some y → y < OB) := Lib.hid (by
            have L := To.left_next K5.out.1 hlt h0 (by rw [hm]; exact K5.out.2) (o' := o') (by rw [hm2]; exact P3.out.2.2)
            rw [hm2]
            exact ⟨⟨hx6, hr6⟩, ⟨P3.out.1, P3.out.2.1, L⟩, fun y e => by cases e; exact hxO⟩)
          have hs6 : OB ≤ w6.heap.size := by have := hgrow.size; simp at this; omega
          clear hown2 hgrow hbo hx6 hr6 H3 P3 B3 HU3
          go_wp2_with fail
          go_roundg (r - (t + 1))
          case measure => omega
          case rel => exact ⟨t + 1, _, _, o', by omega, Nat.le_refl _, rfl, HB6, HU6, HG6, hs6⟩
        · obtain rfl : t = r := by omega
          have z0 : wr.cell? ⟨nb + 1, 0, none⟩ = some v := cell_of_row _ _ 0 _ _ _ k1
          rw [Nat.sub_self] at k2
          obtain ⟨A', c', rfl⟩ : ∃ A' c', v = .slice A' 0 c' := by
            rcases k2.2 with ⟨rfl, _⟩ | ⟨g', cap', cur, rfl, _⟩
            · exact ⟨_, _, rfl⟩
            · exact ⟨_, _, rfl⟩
          have CL := Lib.hid (len_any A' 0 c' wr)
          have HZ := Lib.hid (nums_rowi (f := fun j => (N2.ord g t j : Int)) (by rw [hup]; exact HU.out))
          clear k1 k2 k3 k4 k5 k6 HG HU
          go_wp2_with fail
          refine CL.out.mono ?_
          rintro e w2 ⟨rfl, rfl⟩
          go_wp2_with fail
          go_ret
          obtain ⟨P, pc, rfl, hP⟩ := HZ.out
          exact ⟨P, pc, rfl, hP, by rw [hnb]; exact HB.out⟩
set_option maxRecDepth 100000 in
set_option maxHeartbeats 4000000 in
theorem impl_tr (A : Option Addr) (n c : Nat) (g : Nat → Int) (roll : Int) (hn : n ≤ 1048576) (w : World) (hA : Nums w w.heap.size A (n * 2) g) :
    Calls Try.prog 34 #[.slice A n c, .int .i64 roll] w (RowAt roll n g (N2.ord g n) w) := by
  have HA := Lib.hid hA
  have CN := Lib.hid (inest A n c g roll hn w hA)
  have V0 := Lib.hid (fun h W (hb : Below w.heap.size w W) => row_no (roll := roll) (n := n) (g := g) (o := N2.ord g n) h hb)
  have V1 : Hid (tv (BlP roll n g) = true → ∀ (W : World) (x : Nat), Below w.heap.size w W → w.heap.size ≤ x → At W x n (fun j => lk (ff roll g n (N2.ord g n) n) j 9) → RowAt roll n g (N2.ord g n) w (.returned (.tuple #[.slice (some ⟨x, 0, none⟩) n n, .int .i64 0])) W) := Lib.hid fun h W x hb hx ha => by
    have a2 := at_put (tv_iff.1 h) (o := N2.ord g n) (fun j hj => N2.ord_lt g n j hj) (fun i j h1 h2 e => To.ord_inj g n i j h1 h2 e) (fun j hj => To.ord_onto g n j hj) ha
    unfold RowAt rwN blC
    rw [if_pos h, if_pos h]
    exact ⟨_, _, rfl, Lib.hid (own_at a2 hx), hb⟩
  have CL := Lib.hid (fun (h : tv (BlP roll n g) = true) w hw => itall A n c g roll (tv_iff.1 h).1.2 w hw)
  have CP := Lib.hid (fun (h : tv (BlP roll n g) = true) P pc w h1 h2 => iput A n c g roll P pc (N2.ord g n) (tv_iff.1 h) (fun j hj => N2.ord_lt g n j hj) (fun i j h1 h2 e => To.ord_inj g n i j h1 h2 e) w h1 h2)
  clear hA
  unfold blC at CN
  generalize RowAt roll n g (N2.ord g n) w = Q at V0 V1 ⊢
  generalize tv (BlP roll n g) = ok at CN CP CL V0 V1
  cases ok
  · have V := Lib.hid (V0.out rfl)
    clear V0 V1 CP CL
    rw [if_neg (show ¬ false = true by simp), if_neg (show ¬ false = true by simp)] at CN
    go_enter Try.func34, Try.ntmps34
    go_wp2_with fail
    refine CN.out.mono ?_
    rintro e w1 ⟨rfl, b1⟩
    have HF := Lib.hid (V.out _ (below_then b1 (below_box w1 (neO none 0 0 0))))
    clear b1 CN HA V
    go_wp2_with fail
    exact HF.out
  have V := Lib.hid (V1.out rfl)
  have CP1 := Lib.hid (CP.out rfl)
  have CL1 := Lib.hid (CL.out rfl)
  rw [if_pos rfl, if_pos rfl] at CN
  clear V0 V1 CP CL
  go_enter Try.func34, Try.ntmps34
  go_wp2_with fail
  refine CN.out.mono ?_
  rintro e w1 ⟨rfl, b1⟩
  have HB := Lib.hid (below_then b1 (below_box w1 (neO A n c roll)))
  have KN := Lib.hid (heap_alloc_new w1 (neO A n c roll))
  clear b1 CN
  go_upto_region 4 with fail
  generalize hw9 : World.alloc _ _ = w2 at HB KN ⊢
  clear hw9
  generalize w1.heap.size = gn at *
  have KEEP : Hid (∀ W : World, Below w2.heap.size w2 W → W.cell? ⟨gn, 0, none⟩ = some (.slice A n c) ∧ W.cell? ⟨gn, 1, none⟩ = some (.int .i64 roll)) := Lib.hid fun W hW => blk2 (Ge.blk_keep hW KN.out)
  have CP2 : Hid (∀ P pc (W : World), Below w2.heap.size w2 W → Nums W W.heap.size P n (fun j => (N2.ord g n j : Int)) → Calls Try.prog 68 #[neV A n c roll, .slice P n pc] W fun e w' => ∃ x, e = .returned (.slice (some ⟨x, 0, none⟩) n n) ∧ W.heap.size ≤ x ∧ Below W.heap.size W w' ∧ At w' x n (fun j => lk (ff roll g n (N2.ord g n) n) j 9)) := Lib.hid fun P pc W hW hP => CP1.out P pc W ((HA.out.below (below_then HB.out hW) (Nat.le_refl _)).more (below_then HB.out hW).size) hP
  have CL2 := Lib.hid (fun W (hW : Below w2.heap.size w2 W) => CL1.out W ((HA.out.below (below_then HB.out hW) (Nat.le_refl _)).more (below_then HB.out hW).size))
  obtain ⟨y0, y1⟩ := KEEP.out w2 (Below.refl _ _)
  clear KN CP1 CL1 HA
  go_region_with (first | (go_at_call 71; (with_reducible refine (CL2.out _ ?_).mono ?_); (focus (repeat (first | (with_reducible exact Below.refl _ _) | refine Below.drew ?_))); rintro e w3 ⟨P3, pc3, rfl, hN3, b3⟩; have b4 := below_then (w0 := w2) ?_ b3; rotate_left; (focus (repeat (first | (with_reducible exact Below.refl _ _) | refine Below.drew ?_))); obtain ⟨y0, y1⟩ := KEEP.out _ b4; clear b3) | (go_at_call 68; (with_reducible refine (CP2.out _ _ _ b4 hN3).mono ?_); rintro e w5 ⟨x5, rfl, hx5, b5, a5⟩))
  all_goals
    have hs2 := HB.out.size
    have hs4 := b4.size
    have HZ := Lib.hid (V.out _ x5 (below_then (below_then HB.out b4) b5) (by omega) a5)
    clear b4 b5 a5 hN3 y0 y1
    simp only [List.getElem_toArray, List.getElem_cons_succ, List.getElem_cons_zero, Act.put, List.setIfInBounds_toArray, List.set_cons_succ, List.set_cons_zero]
    go_wp2_with fail
    exact HZ.out
end Go.Proofs.Ytgclhkiiaclkgab.Pi
