/- checkStrips; the program's ValidStrips. -/
import Derived.Test.YtpmmfalpcooenaaDoorErLib
namespace Go.Proofs.YtpmmfalpcooenaaDoor.Es
set_option linter.unusedVariables false
open Go.RowKit Ft Is Ge Qb Ly Stv Ec Er

set_option maxRecDepth 100000 in
set_option maxHeartbeats 1000000 in
theorem check_strips (A : Option Addr) (n c : Nat) (f : Nat → Int) (hn : n ≤ 1048576) (w : World) (hA : Nums w w.heap.size A (n * 4) f) (hC : Sen w 1) (hO : Sen w 3) :
    Calls Tryd.prog 48 #[.slice A n c] w fun e w' => (∃ x, e = .returned x ∧ CodE 1 (tv (StP n f)) x) ∧ Below w.heap.size w w' := by
  have HA := Lib.hid hA
  have HO := Lib.hid hO
  have CW := Lib.hid (fun W => Ly.within_any (n : Int) 3 12 W)
  have CX := Lib.hid (fun a b c d W (hb : Below w.heap.size w W) => check_any a b c d W (hO.below hb))
  have H0 : Hid (inB (n : Int) 3 12 = false → tv (StP n f) = false) := Lib.hid fun h => tv_no fun e => by
    rw [in_yes (by have := e.2.1; omega) (by have := e.2.2; omega)] at h; cases h
  have HN : Hid (∀ k, k < n → stB (f (k * 4)) (f (k * 4 + 1)) (f (k * 4 + 2)) (f (k * 4 + 3)) = false → tv (StP n f) = false) := Lib.hid fun k hk h => tv_no fun e => by rw [e.1 k hk] at h; cases h
  have HY : Hid (inB (n : Int) 3 12 = true → (∀ k, k < n → stB (f (k * 4)) (f (k * 4 + 1)) (f (k * 4 + 2)) (f (k * 4 + 3)) = true) → tv (StP n f) = true) := Lib.hid fun h0 h => tv_yes ⟨h, by have := Ba.in_of h0; omega⟩
  have QF0 : Hid (tv (StP n f) = false → ∀ u v W, Below w.heap.size w W → (∃ x, Ending.returned (ceV u v 1) = .returned x ∧ CodE 1 (tv (StP n f)) x) ∧ Below w.heap.size w W) := Lib.hid fun h u v W hb => ⟨⟨_, rfl, .inr ⟨h, u, v, rfl⟩⟩, hb⟩
  have QT0 : Hid (tv (StP n f) = true → ∀ W, Below w.heap.size w W → (∃ x, Ending.returned .nilIface = .returned x ∧ CodE 1 (tv (StP n f)) x) ∧ Below w.heap.size w W) := Lib.hid fun h W hb => ⟨⟨_, rfl, .inl ⟨h, rfl⟩⟩, hb⟩
  obtain ⟨Q, hQ⟩ : ∃ Q : Ending → World → Prop, Q = fun e w' => (∃ x, e = .returned x ∧ CodE 1 (tv (StP n f)) x) ∧ Below w.heap.size w w' := ⟨_, rfl⟩
  have QF : Hid (tv (StP n f) = false → ∀ u v W, Below w.heap.size w W → Q (.returned (ceV u v 1)) W) := Lib.hid fun h u v W hb => by rw [hQ]; exact QF0.out h u v W hb
  have QT : Hid (tv (StP n f) = true → ∀ W, Below w.heap.size w W → Q (.returned .nilIface) W) := Lib.hid fun h W hb => by rw [hQ]; exact QT0.out h W hb
  rw [← hQ]
  clear hQ QF0 QT0
  obtain ⟨uc, vc, hc⟩ := hC
  have HB := Lib.hid (below_box w (.cells #[.nilIface] 62))
  have KB := Lib.hid (heap_alloc_new w (.cells #[.nilIface] 62))
  generalize tv (StP n f) = r at H0 HN HY QF QT
  generalize inB (n : Int) 3 12 = r0 at CW H0 HY
  clear hA hO
  go_enter_defers Tryd.func48, Tryd.ntmps48
  go_wp2_with fail
  refine (CW.out _).mono ?_
  rintro e w1 ⟨rfl, hw⟩
  have HB1 : Hid (Below w.heap.size w w1) := Lib.hid (by rw [← hw]; exact HB.out)
  have KB1 : Hid (w1.heap[w.heap.size]? = some (.cells #[.nilIface] 62 (0, 0))) := Lib.hid (by rw [← hw]; exact KB.out)
  have hc1 : w1.cell? ⟨1, 0, none⟩ = some (.iface uc vc) := (HB1.out.cell (p := ⟨1, 0, none⟩) (World.block_lt_of_cell? w _ hc)).trans hc
  clear hw HB KB hc CW
  cases r0
  · have HF := Lib.hid (QF.out (H0.out rfl) uc vc)
    have k0 : w1.cell? ⟨w.heap.size, 0, none⟩ = some .nilIface := cell_of_row _ _ _ _ _ _ KB1.out
    have z0 : w1.frozen? ⟨w.heap.size, 0, none⟩ = false := blk_free KB1.out 0
    clear H0 HN HY QF QT
    go_wp2_with fail
    refine leaves_cons (f := 80) (args := #[.int .i64 1, .pointer (some ⟨w.heap.size, 0, none⟩)]) (by simp) (by simp [go_sem]) ?_
    have KB2 := heap_set KB1.out 0 (.iface uc vc)
    refine (give_err 1 w.heap.size uc vc .returning _ (cell_of_row _ _ _ _ _ _ KB2) (blk_free KB2 0)).mono ?_
    rintro e u' w'' ⟨rfl, rfl, rfl⟩
    have KB3 := heap_set KB2 0 (ceV uc vc 1)
    have HZ := HF.out _ ((HB1.out.setCell (p := ⟨w.heap.size, 0, none⟩) (Nat.le_refl _) (.iface uc vc)).setCell (p := ⟨w.heap.size, 0, none⟩) (Nat.le_refl _) (ceV uc vc 1))
    have k3 := cell_of_row _ _ 0 _ _ _ KB3
    generalize ((w1.setCell ⟨w.heap.size, 0, none⟩ (.iface uc vc)).setCell ⟨w.heap.size, 0, none⟩ (ceV uc vc 1)) = W at HZ k3 ⊢
    simp at k3
    refine ⟨ceV uc vc 1, ?_, HZ⟩
    simp [results, Tryd.results48, go_sem, k3]
  · go_wp2_with fail
    go_loopw [12] (fun i wr => ∃ k : Nat, k ≤ n ∧ i = .int .i64 k ∧ Hid (Below w.heap.size w wr) ∧ Hid (wr.heap[w.heap.size]? = some (.cells #[.nilIface] 62 (0, 0))) ∧ Hid (∀ j, j < k → stB (f (j * 4)) (f (j * 4 + 1)) (f (j * 4 + 2)) (f (j * 4 + 3)) = true)) (fun i _ => n - (intOf i).toNat)
    case atStart => exact ⟨0, Nat.zero_le _, rfl, HB1, KB1, Lib.hid fun j hj => by omega⟩
    case round =>
      obtain ⟨k, hk, rfl, HW, HK, hall⟩ := hrel
      have k0 : wr.cell? ⟨w.heap.size, 0, none⟩ = some .nilIface := cell_of_row _ _ _ _ _ _ HK.out
      have z0 : wr.frozen? ⟨w.heap.size, 0, none⟩ = false := blk_free HK.out 0
      by_cases hlt : k < n
      · obtain ⟨b, off, rfl, hb, hc⟩ := (HA.out.below HW.out (Nat.le_refl _)) (by omega)
        obtain ⟨x0, x1, x2, x3⟩ := Str.cells_at hc hlt
        have HNk := Lib.hid (HN.out k hlt)
        have HS := Lib.hid (fun h => step_all (p := fun j => stB (f (j * 4)) (f (j * 4 + 1)) (f (j * 4 + 2)) (f (j * 4 + 3))) hall.out (k := k) h)
        have C := Lib.hid (CX.out (f (k * 4)) (f (k * 4 + 1)) (f (k * 4 + 2)) (f (k * 4 + 3)))
        have e0 : (0 : Int) ≤ (k : Int) := Int.natCast_nonneg _
        have e1 : (k : Int) < (n : Int) := by omega
        have hk1 : k + 1 ≤ n := by omega
        generalize stB (f (k * 4)) (f (k * 4 + 1)) (f (k * 4 + 2)) (f (k * 4 + 3)) = q at HNk HS C
        unfold Str.reV at C
        generalize f (k * 4) = u0, f (k * 4 + 1) = u1, f (k * 4 + 2) = u2, f (k * 4 + 3) = u3 at x0 x1 x2 x3 C
        clear hc hk CX
        go_wp2_with fail
        refine (C.out _ (below_then HW.out (below_box _ _))).mono ?_
        rintro e w2 ⟨⟨x, rfl, hx⟩, b2⟩
        have HW2 := Lib.hid (below_then HW.out (below_then (below_box _ _) b2))
        have HK2 := Lib.hid (blk_keep (below_then (below_box _ _) b2) HK.out)
        have k2 : w2.cell? ⟨w.heap.size, 0, none⟩ = some .nilIface := cell_of_row _ _ _ _ _ _ HK2.out
        have z2 : w2.frozen? ⟨w.heap.size, 0, none⟩ = false := blk_free HK2.out 0
        clear b2 C x0 x1 x2 x3 k0 z0
        rcases hx with ⟨rfl, rfl⟩ | ⟨rfl, u, v, rfl⟩
        · have HD := Lib.hid (HS.out rfl)
          have HW3 := Lib.hid (HW2.out.setCell (p := ⟨w.heap.size, 0, none⟩) (Nat.le_refl _) .nilIface)
          have HK3 : Hid ((w2.setCell ⟨w.heap.size, 0, none⟩ .nilIface).heap[w.heap.size]? = some (.cells #[.nilIface] 62 (0, 0))) := Lib.hid (by simpa using heap_set HK2.out 0 .nilIface)
          clear HK2 HW2 HNk HS
          go_wp2_with fail
          go_roundw
          case rel => exact ⟨k + 1, hk1, by go_num, HW3, HK3, HD⟩
          case measure => simp [intOf]; omega
        · have HF := Lib.hid (QF.out (HNk.out rfl) u v)
          clear HNk HS HN HY QF QT
          go_wp2_with fail
          refine leaves_cons (f := 80) (args := #[.int .i64 1, .pointer (some ⟨w.heap.size, 0, none⟩)]) (by simp) (by simp [go_sem]) ?_
          have KB2 := heap_set (heap_set HK2.out 0 (.iface u v)) 0 (.iface u v)
          refine (give_err 1 w.heap.size u v .returning _ (cell_of_row _ _ _ _ _ _ KB2) (blk_free KB2 0)).mono ?_
          rintro e u' w'' ⟨rfl, rfl, rfl⟩
          have KB3 := heap_set KB2 0 (ceV u v 1)
          have HZ := HF.out _ (((HW2.out.setCell (p := ⟨w.heap.size, 0, none⟩) (Nat.le_refl _) (.iface u v)).setCell (p := ⟨w.heap.size, 0, none⟩) (Nat.le_refl _) (.iface u v)).setCell (p := ⟨w.heap.size, 0, none⟩) (Nat.le_refl _) (ceV u v 1))
          have k3 := cell_of_row _ _ 0 _ _ _ KB3
          generalize (((w2.setCell ⟨w.heap.size, 0, none⟩ (.iface u v)).setCell ⟨w.heap.size, 0, none⟩ (.iface u v)).setCell ⟨w.heap.size, 0, none⟩ (ceV u v 1)) = W at HZ k3 ⊢
          simp at k3
          refine ⟨ceV u v 1, ?_, HZ⟩
          simp [results, Tryd.results48, go_sem, k3]
      · have hkn : k = n := by omega
        subst hkn
        have HF := Lib.hid (QT.out (HY.out (by first | rfl | trivial) hall.out))
        clear HN HY QF QT CX
        go_wp2_with fail
        refine leaves_cons (f := 80) (args := #[.int .i64 1, .pointer (some ⟨w.heap.size, 0, none⟩)]) (by simp) (by simp [go_sem]) ?_
        have KB2 := heap_set HK.out 0 .nilIface
        refine (give_nil 1 w.heap.size .returning _ (cell_of_row _ _ _ _ _ _ KB2)).mono ?_
        rintro e u' w'' ⟨rfl, rfl, rfl⟩
        have HZ := HF.out _ (HW.out.setCell (p := ⟨w.heap.size, 0, none⟩) (Nat.le_refl _) .nilIface)
        have k3 := cell_of_row _ _ 0 _ _ _ KB2
        generalize wr.setCell ⟨w.heap.size, 0, none⟩ .nilIface = W at HZ k3 ⊢
        simp at k3
        refine ⟨.nilIface, ?_, HZ⟩
        simp [results, Tryd.results48, go_sem, k3]
theorem impl_vs (A : Option Addr) (n c : Nat) (f : Nat → Int) (hn : n ≤ 1048576) (w : World) (hC : Sen w 1) (hO : Sen w 3) (hA : Nums w w.heap.size A (n * 4) f) :
    Calls Tryd.prog 17 #[.slice A n c] w fun e w' => e = .returned (.bool (tv (StP n f))) ∧ Below w.heap.size w w' := by
  have C := Lib.hid (check_strips A n c f hn w hA hC hO)
  clear hA hC hO
  generalize tv (StP n f) = r at C ⊢
  go_enter Tryd.func17, Tryd.ntmps17
  go_wp2_with fail
  refine C.out.mono ?_
  rintro e w1 ⟨⟨x, rfl, hx⟩, b1⟩
  rcases hx with ⟨rfl, rfl⟩ | ⟨rfl, u, v, rfl⟩
  · go_wp2_with fail
    go_ret
    exact ⟨rfl, b1⟩
  · go_wp2_with fail
    go_ret
    exact ⟨rfl, b1⟩
/-- The code of strips. -/
theorem code_strips (A : Option Addr) (n c : Nat) (f : Nat → Int) (x : Value) (hx : CodE 1 (tv (StP n f)) x) (w : World) (hE : EtyAt w) :
    Calls Tryd.prog 50 #[x] w fun e w' => e = .returned (.int .i64 (if tv (StP n f) = true then 0 else 1)) ∧ Below w.heap.size w w' := code_of 1 _ x hx w hE
end Go.Proofs.YtpmmfalpcooenaaDoor.Es
