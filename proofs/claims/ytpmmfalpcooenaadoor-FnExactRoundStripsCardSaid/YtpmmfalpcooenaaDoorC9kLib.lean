/- The other checks of chapter 9. -/
import Derived.Test.YtpmmfalpcooenaaDoorEsLib
namespace Go.Proofs.YtpmmfalpcooenaaDoor.C9k
set_option linter.unusedVariables false
open Go.RowKit Ft Is Ge Qb Ly Stv Ec Er

/-- Places: at most ten, that increase, within bounds. -/
def PlP (lo hi : Int) (n : Nat) (d : Nat → Int) : Prop := n ≤ 10 ∧ Ic.Up n d ∧ Al lo hi n d
set_option maxRecDepth 100000 in
theorem places_any (lo hi : Int) (A : Option Addr) (n c : Nat) (d : Nat → Int) (hn : n ≤ 1048576) (w : World) (hA : Nums w w.heap.size A n d) (hC : Sen w 1) (hO : Sen w 3) (hD : Sen w 4) :
    Calls Tryd.prog 87 #[.slice A n c, .int .i64 lo, .int .i64 hi] w fun e w' => (∃ x, e = .returned x ∧ RawE (tv (PlP lo hi n d)) x) ∧ Below w.heap.size w w' := by
  have C1 := Lib.hid (Ic.inc_any A n c d hn w hA)
  have C2 := Lib.hid (fun W (hb : Below w.heap.size w W) => numbers_any lo hi A n c d hn W ((hA.below hb (Nat.le_refl _)).more hb.size) (hO.below hb))
  have H0 : Hid (10 < n → tv (PlP lo hi n d) = false) := Lib.hid fun h => tv_no fun e => by have := e.1; omega
  have H1 : Hid (tv (Ic.Up n d) = false → tv (PlP lo hi n d) = false) := Lib.hid fun h => tv_no fun e => by rw [tv_yes e.2.1] at h; cases h
  have H2 : Hid (n ≤ 10 → tv (Ic.Up n d) = true → tv (PlP lo hi n d) = tv (Al lo hi n d)) := Lib.hid fun h0 h1 => by
    by_cases q : Al lo hi n d
    · rw [tv_yes q, tv_yes ⟨h0, tv_iff.1 h1, q⟩]
    · rw [tv_no q, tv_no fun e => q e.2.2]
  obtain ⟨uc, vc, hc⟩ := hC
  have HD := Lib.hid hD
  generalize tv (Ic.Up n d) = r1 at C1 H1 H2
  generalize tv (Al lo hi n d) = r2 at C2 H2
  generalize tv (PlP lo hi n d) = r at H0 H1 H2 ⊢
  clear hA hO hD
  by_cases h10 : 10 < n
  · have HF := Lib.hid (H0.out h10)
    have h10' : (10 : Int) < (n : Int) := by omega
    clear C1 C2 H1 H2
    go_enter Tryd.func87, Tryd.ntmps87
    go_wp2_with fail
    go_ret
    exact ⟨⟨_, rfl, .inr ⟨HF.out, uc, vc, rfl⟩⟩, Below.refl _ _⟩
  have h10' : ¬ (10 : Int) < (n : Int) := by omega
  have H3 := Lib.hid (H2.out (by omega))
  clear H0 H2
  go_enter Tryd.func87, Tryd.ntmps87
  go_wp2_with fail
  refine C1.out.mono ?_
  rintro e w1 ⟨rfl, b1⟩
  have HB1 := Lib.hid b1
  obtain ⟨ud, vd, hd⟩ := HD.out.below b1
  cases r1
  · have HF := Lib.hid (H1.out rfl)
    clear C1 C2 H1 H3
    go_wp2_with fail
    go_ret
    exact ⟨⟨_, rfl, .inr ⟨HF.out, ud, vd, rfl⟩⟩, HB1.out⟩
  · have HF := Lib.hid (H3.out (by first | rfl | trivial))
    have C3 := Lib.hid (C2.out w1 b1)
    clear b1 C1 C2 H1 H3 hd
    go_wp2_with fail
    refine C3.out.mono ?_
    rintro e w2 ⟨⟨x, rfl, hx⟩, hw⟩
    have HB2 : Hid (Below w.heap.size w w2) := Lib.hid (by rw [← hw]; exact HB1.out)
    clear hw
    go_wp2_with fail
    go_ret
    exact ⟨⟨_, rfl, by rw [HF.out]; exact hx⟩, HB2.out⟩
set_option maxRecDepth 100000 in
set_option maxHeartbeats 1000000 in
theorem check_allow (m k al : Int) (hm : 0 ≤ m ∧ m ≤ 1048576) (w : World) (hO : Sen w 3) :
    Calls Tryd.prog 54 #[.int .i64 m, .int .i64 k, .int .i64 al] w fun e w' => (∃ x, e = .returned x ∧ CodE 2 (inB k 0 (m - 1) && inB al 0 200) x) ∧ Below w.heap.size w w' := by
  have C0 := Lib.hid (fun W p hp (hb : Below w.heap.size w W) => numbers_new 0 (m - 1) [k] (by simp) W p 1 hp rfl (hO.below hb))
  have C1 := Lib.hid (fun W p hp (hb : Below w.heap.size w W) => numbers_new 0 200 [al] (by simp) W p 1 hp rfl (hO.below hb))
  simp only [al_one, List.map_cons, List.map_nil] at C0
  simp only [al_one, List.map_cons, List.map_nil] at C1
  obtain ⟨r, hr⟩ : ∃ r, r = (inB k 0 (m - 1) && inB al 0 200) := ⟨_, rfl⟩
  have HR : Hid (r = ((inB k 0 (m - 1)) && (inB al 0 200))) := Lib.hid (by rw [hr])
  rw [← hr]
  clear hr
  generalize inB k 0 (m - 1) = r0 at C0 HR
  generalize inB al 0 200 = r1 at C1 HR
  have QF0 : Hid (r = false → ∀ u v W, Below w.heap.size w W → (∃ x, Ending.returned (ceV u v 2) = .returned x ∧ CodE 2 r x) ∧ Below w.heap.size w W) := Lib.hid fun h u v W hb => ⟨⟨_, rfl, .inr ⟨h, u, v, rfl⟩⟩, hb⟩
  have QT0 : Hid (r = true → ∀ W, Below w.heap.size w W → (∃ x, Ending.returned .nilIface = .returned x ∧ CodE 2 r x) ∧ Below w.heap.size w W) := Lib.hid fun h W hb => ⟨⟨_, rfl, .inl ⟨h, rfl⟩⟩, hb⟩
  obtain ⟨Q, hQ⟩ : ∃ Q : Ending → World → Prop, Q = fun e w' => (∃ x, e = .returned x ∧ CodE 2 r x) ∧ Below w.heap.size w w' := ⟨_, rfl⟩
  have QF : Hid (r = false → ∀ u v W, Below w.heap.size w W → Q (.returned (ceV u v 2)) W) := Lib.hid fun h u v W hb => by rw [hQ]; exact QF0.out h u v W hb
  have QT : Hid (r = true → ∀ W, Below w.heap.size w W → Q (.returned .nilIface) W) := Lib.hid fun h W hb => by rw [hQ]; exact QT0.out h W hb
  rw [← hQ]
  clear hQ QF0 QT0
  have HB := Lib.hid (below_box w (.cells #[.nilIface] 62))
  have KB := Lib.hid (heap_alloc_new w (.cells #[.nilIface] 62))
  clear hO
  go_enter_defers Tryd.func54, Tryd.ntmps54
  go_wp2_with fail
  refine (C0.out _ _ (by simp) HB.out).mono ?_
  rintro e w1 ⟨⟨x, rfl, hx⟩, hw⟩
  have HW0 : Hid (Below w.heap.size w w1) := Lib.hid (by rw [← hw]; exact below_then HB.out (below_box _ _))
  have HK0 := Lib.hid (show w1.heap[w.heap.size]? = some (.cells #[.nilIface] 62 (0, 0)) by rw [← hw]; exact blk_keep (below_box _ _) KB.out)
  have k0 : w1.cell? ⟨w.heap.size, 0, none⟩ = some .nilIface := cell_of_row _ _ _ _ _ _ HK0.out
  have z0 : w1.frozen? ⟨w.heap.size, 0, none⟩ = false := blk_free HK0.out 0
  clear hw HB KB C0
  rcases hx with ⟨rfl, rfl⟩ | ⟨rfl, u, v, rfl⟩
  rotate_left
  · have HFr : Hid (r = false) := Lib.hid (by rw [HR.out]; simp)
    clear C1 HR
    go_wp2_with fail
    refine leaves_cons (f := 80) (args := #[.int .i64 2, .pointer (some ⟨w.heap.size, 0, none⟩)]) (by simp) (by simp [go_sem]) ?_
    have KB2 := heap_set (heap_set HK0.out 0 (.iface u v)) 0 (.iface u v)
    refine (give_err 2 w.heap.size u v .returning _ (cell_of_row _ _ _ _ _ _ KB2) (blk_free KB2 0)).mono ?_
    rintro e u' w'' ⟨rfl, rfl, rfl⟩
    have KB3 := heap_set KB2 0 (ceV u v 2)
    have HZ := QF.out (HFr.out) u v _ (((HW0.out.setCell (p := ⟨w.heap.size, 0, none⟩) (Nat.le_refl _) (.iface u v)).setCell (p := ⟨w.heap.size, 0, none⟩) (Nat.le_refl _) (.iface u v)).setCell (p := ⟨w.heap.size, 0, none⟩) (Nat.le_refl _) (ceV u v 2))
    have k3 := cell_of_row _ _ 0 _ _ _ KB3
    generalize (((w1.setCell ⟨w.heap.size, 0, none⟩ (.iface u v)).setCell ⟨w.heap.size, 0, none⟩ (.iface u v)).setCell ⟨w.heap.size, 0, none⟩ (ceV u v 2)) = W at HZ k3 ⊢
    simp at k3
    refine ⟨ceV u v 2, ?_, HZ⟩
    simp [results, Tryd.results54, go_sem, k3]
  have HB1 := Lib.hid (HW0.out.setCell (p := ⟨w.heap.size, 0, none⟩) (Nat.le_refl _) .nilIface)
  have KB1 : Hid ((w1.setCell ⟨w.heap.size, 0, none⟩ .nilIface).heap[w.heap.size]? = some (.cells #[.nilIface] 62 (0, 0))) := Lib.hid (by simpa using heap_set HK0.out 0 .nilIface)
  clear HW0 HK0
  go_wp2_with fail
  refine (C1.out _ _ (by simp) HB1.out).mono ?_
  rintro e w2 ⟨⟨x, rfl, hx⟩, hw⟩
  have HW1 : Hid (Below w.heap.size w w2) := Lib.hid (by rw [← hw]; exact below_then HB1.out (below_box _ _))
  have HK1 := Lib.hid (show w2.heap[w.heap.size]? = some (.cells #[.nilIface] 62 (0, 0)) by rw [← hw]; exact blk_keep (below_box _ _) KB1.out)
  have k0 : w2.cell? ⟨w.heap.size, 0, none⟩ = some .nilIface := cell_of_row _ _ _ _ _ _ HK1.out
  have z0 : w2.frozen? ⟨w.heap.size, 0, none⟩ = false := blk_free HK1.out 0
  clear hw HB1 KB1 C1
  rcases hx with ⟨rfl, rfl⟩ | ⟨rfl, u, v, rfl⟩
  rotate_left
  · have HFr : Hid (r = false) := Lib.hid (by rw [HR.out]; simp)
    clear HR
    go_wp2_with fail
    refine leaves_cons (f := 80) (args := #[.int .i64 2, .pointer (some ⟨w.heap.size, 0, none⟩)]) (by simp) (by simp [go_sem]) ?_
    have KB2 := heap_set HK1.out 0 (.iface u v)
    refine (give_err 2 w.heap.size u v .returning _ (cell_of_row _ _ _ _ _ _ KB2) (blk_free KB2 0)).mono ?_
    rintro e u' w'' ⟨rfl, rfl, rfl⟩
    have KB3 := heap_set KB2 0 (ceV u v 2)
    have HZ := QF.out (HFr.out) u v _ ((HW1.out.setCell (p := ⟨w.heap.size, 0, none⟩) (Nat.le_refl _) (.iface u v)).setCell (p := ⟨w.heap.size, 0, none⟩) (Nat.le_refl _) (ceV u v 2))
    have k3 := cell_of_row _ _ 0 _ _ _ KB3
    generalize ((w2.setCell ⟨w.heap.size, 0, none⟩ (.iface u v)).setCell ⟨w.heap.size, 0, none⟩ (ceV u v 2)) = W at HZ k3 ⊢
    simp at k3
    refine ⟨ceV u v 2, ?_, HZ⟩
    simp [results, Tryd.results54, go_sem, k3]
  have HTr : Hid (r = true) := Lib.hid (by rw [HR.out]; simp)
  clear HR
  go_wp2_with fail
  refine leaves_cons (f := 80) (args := #[.int .i64 2, .pointer (some ⟨w.heap.size, 0, none⟩)]) (by simp) (by simp [go_sem]) ?_
  have KB2 := heap_set HK1.out 0 .nilIface
  refine (give_nil 2 w.heap.size .returning _ (cell_of_row _ _ _ _ _ _ KB2)).mono ?_
  rintro e u' w'' ⟨rfl, rfl, rfl⟩
  have HZ := QT.out HTr.out _ (HW1.out.setCell (p := ⟨w.heap.size, 0, none⟩) (Nat.le_refl _) .nilIface)
  have k3 := cell_of_row _ _ 0 _ _ _ KB2
  generalize w2.setCell ⟨w.heap.size, 0, none⟩ .nilIface = W at HZ k3 ⊢
  simp at k3
  refine ⟨.nilIface, ?_, HZ⟩
  simp [results, Tryd.results54, go_sem, k3]
set_option maxRecDepth 100000 in
set_option maxHeartbeats 1000000 in
theorem check_shares (A : Option Addr) (n c : Nat) (d : Nat → Int) (hn : n ≤ 1048576) (L : Option Addr) (m lc : Nat) (es : Nat → Int) (hm : m ≤ 1048576) (w : World) (hA : Nums w w.heap.size A n d) (hL : Nums w w.heap.size L m es) (hC : Sen w 1) (hO : Sen w 3) (hD : Sen w 4) :
    Calls Tryd.prog 59 #[.slice A n c, .slice L m lc] w fun e w' => (∃ x, e = .returned x ∧ CodE 2 (tv (Al 1 5000 m es) && tv (PlP 1 999 n d)) x) ∧ Below w.heap.size w w' := by
  have C0 := Lib.hid (fun W (hb : Below w.heap.size w W) => numbers_any 1 5000 L m lc es hm W ((hL.below hb (Nat.le_refl _)).more hb.size) (hO.below hb))
  have C1 := Lib.hid (fun W (hb : Below w.heap.size w W) => places_any 1 999 A n c d hn W ((hA.below hb (Nat.le_refl _)).more hb.size) (hC.below hb) (hO.below hb) (hD.below hb))
  obtain ⟨r, hr⟩ : ∃ r, r = (tv (Al 1 5000 m es) && tv (PlP 1 999 n d)) := ⟨_, rfl⟩
  have HR : Hid (r = ((tv (Al 1 5000 m es)) && (tv (PlP 1 999 n d)))) := Lib.hid (by rw [hr])
  rw [← hr]
  clear hr
  generalize tv (Al 1 5000 m es) = r0 at C0 HR
  generalize tv (PlP 1 999 n d) = r1 at C1 HR
  have QF0 : Hid (r = false → ∀ u v W, Below w.heap.size w W → (∃ x, Ending.returned (ceV u v 2) = .returned x ∧ CodE 2 r x) ∧ Below w.heap.size w W) := Lib.hid fun h u v W hb => ⟨⟨_, rfl, .inr ⟨h, u, v, rfl⟩⟩, hb⟩
  have QT0 : Hid (r = true → ∀ W, Below w.heap.size w W → (∃ x, Ending.returned .nilIface = .returned x ∧ CodE 2 r x) ∧ Below w.heap.size w W) := Lib.hid fun h W hb => ⟨⟨_, rfl, .inl ⟨h, rfl⟩⟩, hb⟩
  obtain ⟨Q, hQ⟩ : ∃ Q : Ending → World → Prop, Q = fun e w' => (∃ x, e = .returned x ∧ CodE 2 r x) ∧ Below w.heap.size w w' := ⟨_, rfl⟩
  have QF : Hid (r = false → ∀ u v W, Below w.heap.size w W → Q (.returned (ceV u v 2)) W) := Lib.hid fun h u v W hb => by rw [hQ]; exact QF0.out h u v W hb
  have QT : Hid (r = true → ∀ W, Below w.heap.size w W → Q (.returned .nilIface) W) := Lib.hid fun h W hb => by rw [hQ]; exact QT0.out h W hb
  rw [← hQ]
  clear hQ QF0 QT0
  have HB := Lib.hid (below_box w (.cells #[.nilIface] 62))
  have KB := Lib.hid (heap_alloc_new w (.cells #[.nilIface] 62))
  clear hO hC hD hA hL
  go_enter_defers Tryd.func59, Tryd.ntmps59
  go_wp2_with fail
  refine (C0.out _ HB.out).mono ?_
  rintro e w1 ⟨⟨x, rfl, hx⟩, hw⟩
  have HW0 : Hid (Below w.heap.size w w1) := Lib.hid (by rw [← hw]; exact HB.out)
  have HK0 := Lib.hid (show w1.heap[w.heap.size]? = some (.cells #[.nilIface] 62 (0, 0)) by rw [← hw]; exact KB.out)
  have k0 : w1.cell? ⟨w.heap.size, 0, none⟩ = some .nilIface := cell_of_row _ _ _ _ _ _ HK0.out
  have z0 : w1.frozen? ⟨w.heap.size, 0, none⟩ = false := blk_free HK0.out 0
  clear hw HB KB C0
  rcases hx with ⟨rfl, rfl⟩ | ⟨rfl, u, v, rfl⟩
  rotate_left
  · have HFr : Hid (r = false) := Lib.hid (by rw [HR.out]; simp)
    clear C1 HR
    go_wp2_with fail
    refine leaves_cons (f := 80) (args := #[.int .i64 2, .pointer (some ⟨w.heap.size, 0, none⟩)]) (by simp) (by simp [go_sem]) ?_
    have KB2 := heap_set (heap_set HK0.out 0 (.iface u v)) 0 (.iface u v)
    refine (give_err 2 w.heap.size u v .returning _ (cell_of_row _ _ _ _ _ _ KB2) (blk_free KB2 0)).mono ?_
    rintro e u' w'' ⟨rfl, rfl, rfl⟩
    have KB3 := heap_set KB2 0 (ceV u v 2)
    have HZ := QF.out (HFr.out) u v _ (((HW0.out.setCell (p := ⟨w.heap.size, 0, none⟩) (Nat.le_refl _) (.iface u v)).setCell (p := ⟨w.heap.size, 0, none⟩) (Nat.le_refl _) (.iface u v)).setCell (p := ⟨w.heap.size, 0, none⟩) (Nat.le_refl _) (ceV u v 2))
    have k3 := cell_of_row _ _ 0 _ _ _ KB3
    generalize (((w1.setCell ⟨w.heap.size, 0, none⟩ (.iface u v)).setCell ⟨w.heap.size, 0, none⟩ (.iface u v)).setCell ⟨w.heap.size, 0, none⟩ (ceV u v 2)) = W at HZ k3 ⊢
    simp at k3
    refine ⟨ceV u v 2, ?_, HZ⟩
    simp [results, Tryd.results59, go_sem, k3]
  have HB1 := Lib.hid (HW0.out.setCell (p := ⟨w.heap.size, 0, none⟩) (Nat.le_refl _) .nilIface)
  have KB1 : Hid ((w1.setCell ⟨w.heap.size, 0, none⟩ .nilIface).heap[w.heap.size]? = some (.cells #[.nilIface] 62 (0, 0))) := Lib.hid (by simpa using heap_set HK0.out 0 .nilIface)
  clear HW0 HK0
  go_wp2_with fail
  refine (C1.out _ HB1.out).mono ?_
  rintro e w2 ⟨⟨x, rfl, hx⟩, hw⟩
  have HW1 : Hid (Below w.heap.size w w2) := Lib.hid (below_then HB1.out hw)
  have HK1 := Lib.hid (show w2.heap[w.heap.size]? = some (.cells #[.nilIface] 62 (0, 0)) from blk_keep hw KB1.out)
  have k0 : w2.cell? ⟨w.heap.size, 0, none⟩ = some .nilIface := cell_of_row _ _ _ _ _ _ HK1.out
  have z0 : w2.frozen? ⟨w.heap.size, 0, none⟩ = false := blk_free HK1.out 0
  clear hw HB1 KB1 C1
  rcases hx with ⟨rfl, rfl⟩ | ⟨rfl, u, v, rfl⟩
  rotate_left
  · have HFr : Hid (r = false) := Lib.hid (by rw [HR.out]; simp)
    clear HR
    go_wp2_with fail
    refine leaves_cons (f := 80) (args := #[.int .i64 2, .pointer (some ⟨w.heap.size, 0, none⟩)]) (by simp) (by simp [go_sem]) ?_
    have KB2 := heap_set HK1.out 0 (.iface u v)
    refine (give_err 2 w.heap.size u v .returning _ (cell_of_row _ _ _ _ _ _ KB2) (blk_free KB2 0)).mono ?_
    rintro e u' w'' ⟨rfl, rfl, rfl⟩
    have KB3 := heap_set KB2 0 (ceV u v 2)
    have HZ := QF.out (HFr.out) u v _ ((HW1.out.setCell (p := ⟨w.heap.size, 0, none⟩) (Nat.le_refl _) (.iface u v)).setCell (p := ⟨w.heap.size, 0, none⟩) (Nat.le_refl _) (ceV u v 2))
    have k3 := cell_of_row _ _ 0 _ _ _ KB3
    generalize ((w2.setCell ⟨w.heap.size, 0, none⟩ (.iface u v)).setCell ⟨w.heap.size, 0, none⟩ (ceV u v 2)) = W at HZ k3 ⊢
    simp at k3
    refine ⟨ceV u v 2, ?_, HZ⟩
    simp [results, Tryd.results59, go_sem, k3]
  have HTr : Hid (r = true) := Lib.hid (by rw [HR.out]; simp)
  clear HR
  go_wp2_with fail
  refine leaves_cons (f := 80) (args := #[.int .i64 2, .pointer (some ⟨w.heap.size, 0, none⟩)]) (by simp) (by simp [go_sem]) ?_
  have KB2 := heap_set HK1.out 0 .nilIface
  refine (give_nil 2 w.heap.size .returning _ (cell_of_row _ _ _ _ _ _ KB2)).mono ?_
  rintro e u' w'' ⟨rfl, rfl, rfl⟩
  have HZ := QT.out HTr.out _ (HW1.out.setCell (p := ⟨w.heap.size, 0, none⟩) (Nat.le_refl _) .nilIface)
  have k3 := cell_of_row _ _ 0 _ _ _ KB2
  generalize w2.setCell ⟨w.heap.size, 0, none⟩ .nilIface = W at HZ k3 ⊢
  simp at k3
  refine ⟨.nilIface, ?_, HZ⟩
  simp [results, Tryd.results59, go_sem, k3]
set_option maxRecDepth 100000 in
set_option maxHeartbeats 1000000 in
theorem check_notches (a b most : Int) (A : Option Addr) (n c : Nat) (d : Nat → Int) (hn : n ≤ 1048576) (L : Option Addr) (m lc : Nat) (es : Nat → Int) (hm : m ≤ 1048576) (w : World) (hA : Nums w w.heap.size A n d) (hL : Nums w w.heap.size L m es) (hC : Sen w 1) (hO : Sen w 3) (hD : Sen w 4) :
    Calls Tryd.prog 64 #[.int .i64 a, .int .i64 b, .slice A n c, .slice L m lc, .int .i64 most] w fun e w' => (∃ x, e = .returned x ∧ CodE 2 ((inB a 1 5000 && inB b 1 5000) && tv (PlP 0 a n d) && tv (PlP 0 b m es) && inB most 0 5000) x) ∧ Below w.heap.size w w' := by
  have C0 := Lib.hid (fun W p hp (hb : Below w.heap.size w W) => numbers_new 1 5000 [a, b] (by simp) W p 2 hp rfl (hO.below hb))
  have C1 := Lib.hid (fun W (hb : Below w.heap.size w W) => places_any 0 a A n c d hn W ((hA.below hb (Nat.le_refl _)).more hb.size) (hC.below hb) (hO.below hb) (hD.below hb))
  have C2 := Lib.hid (fun W (hb : Below w.heap.size w W) => places_any 0 b L m lc es hm W ((hL.below hb (Nat.le_refl _)).more hb.size) (hC.below hb) (hO.below hb) (hD.below hb))
  have C3 := Lib.hid (fun W p hp (hb : Below w.heap.size w W) => numbers_new 0 5000 [most] (by simp) W p 1 hp rfl (hO.below hb))
  simp only [al_two, List.map_cons, List.map_nil] at C0
  simp only [al_one, List.map_cons, List.map_nil] at C3
  obtain ⟨r, hr⟩ : ∃ r, r = ((inB a 1 5000 && inB b 1 5000) && tv (PlP 0 a n d) && tv (PlP 0 b m es) && inB most 0 5000) := ⟨_, rfl⟩
  have HR : Hid (r = (((inB a 1 5000 && inB b 1 5000)) && (tv (PlP 0 a n d)) && (tv (PlP 0 b m es)) && (inB most 0 5000))) := Lib.hid (by rw [hr])
  rw [← hr]
  clear hr
  generalize (inB a 1 5000 && inB b 1 5000) = r0 at C0 HR
  generalize tv (PlP 0 a n d) = r1 at C1 HR
  generalize tv (PlP 0 b m es) = r2 at C2 HR
  generalize inB most 0 5000 = r3 at C3 HR
  have QF0 : Hid (r = false → ∀ u v W, Below w.heap.size w W → (∃ x, Ending.returned (ceV u v 2) = .returned x ∧ CodE 2 r x) ∧ Below w.heap.size w W) := Lib.hid fun h u v W hb => ⟨⟨_, rfl, .inr ⟨h, u, v, rfl⟩⟩, hb⟩
  have QT0 : Hid (r = true → ∀ W, Below w.heap.size w W → (∃ x, Ending.returned .nilIface = .returned x ∧ CodE 2 r x) ∧ Below w.heap.size w W) := Lib.hid fun h W hb => ⟨⟨_, rfl, .inl ⟨h, rfl⟩⟩, hb⟩
  obtain ⟨Q, hQ⟩ : ∃ Q : Ending → World → Prop, Q = fun e w' => (∃ x, e = .returned x ∧ CodE 2 r x) ∧ Below w.heap.size w w' := ⟨_, rfl⟩
  have QF : Hid (r = false → ∀ u v W, Below w.heap.size w W → Q (.returned (ceV u v 2)) W) := Lib.hid fun h u v W hb => by rw [hQ]; exact QF0.out h u v W hb
  have QT : Hid (r = true → ∀ W, Below w.heap.size w W → Q (.returned .nilIface) W) := Lib.hid fun h W hb => by rw [hQ]; exact QT0.out h W hb
  rw [← hQ]
  clear hQ QF0 QT0
  have HB := Lib.hid (below_box w (.cells #[.nilIface] 62))
  have KB := Lib.hid (heap_alloc_new w (.cells #[.nilIface] 62))
  clear hO hC hD hA hL
  go_enter_defers Tryd.func64, Tryd.ntmps64
  go_wp2_with fail
  refine (C0.out _ _ (by simp) HB.out).mono ?_
  rintro e w1 ⟨⟨x, rfl, hx⟩, hw⟩
  have HW0 : Hid (Below w.heap.size w w1) := Lib.hid (by rw [← hw]; exact below_then HB.out (below_box _ _))
  have HK0 := Lib.hid (show w1.heap[w.heap.size]? = some (.cells #[.nilIface] 62 (0, 0)) by rw [← hw]; exact blk_keep (below_box _ _) KB.out)
  have k0 : w1.cell? ⟨w.heap.size, 0, none⟩ = some .nilIface := cell_of_row _ _ _ _ _ _ HK0.out
  have z0 : w1.frozen? ⟨w.heap.size, 0, none⟩ = false := blk_free HK0.out 0
  clear hw HB KB C0
  rcases hx with ⟨rfl, rfl⟩ | ⟨rfl, u, v, rfl⟩
  rotate_left
  · have HFr : Hid (r = false) := Lib.hid (by rw [HR.out]; simp)
    clear C1 C2 C3 HR
    go_wp2_with fail
    refine leaves_cons (f := 80) (args := #[.int .i64 2, .pointer (some ⟨w.heap.size, 0, none⟩)]) (by simp) (by simp [go_sem]) ?_
    have KB2 := heap_set (heap_set HK0.out 0 (.iface u v)) 0 (.iface u v)
    refine (give_err 2 w.heap.size u v .returning _ (cell_of_row _ _ _ _ _ _ KB2) (blk_free KB2 0)).mono ?_
    rintro e u' w'' ⟨rfl, rfl, rfl⟩
    have KB3 := heap_set KB2 0 (ceV u v 2)
    have HZ := QF.out (HFr.out) u v _ (((HW0.out.setCell (p := ⟨w.heap.size, 0, none⟩) (Nat.le_refl _) (.iface u v)).setCell (p := ⟨w.heap.size, 0, none⟩) (Nat.le_refl _) (.iface u v)).setCell (p := ⟨w.heap.size, 0, none⟩) (Nat.le_refl _) (ceV u v 2))
    have k3 := cell_of_row _ _ 0 _ _ _ KB3
    generalize (((w1.setCell ⟨w.heap.size, 0, none⟩ (.iface u v)).setCell ⟨w.heap.size, 0, none⟩ (.iface u v)).setCell ⟨w.heap.size, 0, none⟩ (ceV u v 2)) = W at HZ k3 ⊢
    simp at k3
    refine ⟨ceV u v 2, ?_, HZ⟩
    simp [results, Tryd.results64, go_sem, k3]
  have HB1 := Lib.hid (HW0.out.setCell (p := ⟨w.heap.size, 0, none⟩) (Nat.le_refl _) .nilIface)
  have KB1 : Hid ((w1.setCell ⟨w.heap.size, 0, none⟩ .nilIface).heap[w.heap.size]? = some (.cells #[.nilIface] 62 (0, 0))) := Lib.hid (by simpa using heap_set HK0.out 0 .nilIface)
  clear HW0 HK0
  go_wp2_with fail
  refine (C1.out _ HB1.out).mono ?_
  rintro e w2 ⟨⟨x, rfl, hx⟩, hw⟩
  have HW1 : Hid (Below w.heap.size w w2) := Lib.hid (below_then HB1.out hw)
  have HK1 := Lib.hid (show w2.heap[w.heap.size]? = some (.cells #[.nilIface] 62 (0, 0)) from blk_keep hw KB1.out)
  have k0 : w2.cell? ⟨w.heap.size, 0, none⟩ = some .nilIface := cell_of_row _ _ _ _ _ _ HK1.out
  have z0 : w2.frozen? ⟨w.heap.size, 0, none⟩ = false := blk_free HK1.out 0
  clear hw HB1 KB1 C1
  rcases hx with ⟨rfl, rfl⟩ | ⟨rfl, u, v, rfl⟩
  rotate_left
  · have HFr : Hid (r = false) := Lib.hid (by rw [HR.out]; simp)
    clear C2 C3 HR
    go_wp2_with fail
    refine leaves_cons (f := 80) (args := #[.int .i64 2, .pointer (some ⟨w.heap.size, 0, none⟩)]) (by simp) (by simp [go_sem]) ?_
    have KB2 := heap_set (heap_set HK1.out 0 (.iface u v)) 0 (.iface u v)
    refine (give_err 2 w.heap.size u v .returning _ (cell_of_row _ _ _ _ _ _ KB2) (blk_free KB2 0)).mono ?_
    rintro e u' w'' ⟨rfl, rfl, rfl⟩
    have KB3 := heap_set KB2 0 (ceV u v 2)
    have HZ := QF.out (HFr.out) u v _ (((HW1.out.setCell (p := ⟨w.heap.size, 0, none⟩) (Nat.le_refl _) (.iface u v)).setCell (p := ⟨w.heap.size, 0, none⟩) (Nat.le_refl _) (.iface u v)).setCell (p := ⟨w.heap.size, 0, none⟩) (Nat.le_refl _) (ceV u v 2))
    have k3 := cell_of_row _ _ 0 _ _ _ KB3
    generalize (((w2.setCell ⟨w.heap.size, 0, none⟩ (.iface u v)).setCell ⟨w.heap.size, 0, none⟩ (.iface u v)).setCell ⟨w.heap.size, 0, none⟩ (ceV u v 2)) = W at HZ k3 ⊢
    simp at k3
    refine ⟨ceV u v 2, ?_, HZ⟩
    simp [results, Tryd.results64, go_sem, k3]
  have HB2 := Lib.hid (HW1.out.setCell (p := ⟨w.heap.size, 0, none⟩) (Nat.le_refl _) .nilIface)
  have KB2 : Hid ((w2.setCell ⟨w.heap.size, 0, none⟩ .nilIface).heap[w.heap.size]? = some (.cells #[.nilIface] 62 (0, 0))) := Lib.hid (by simpa using heap_set HK1.out 0 .nilIface)
  clear HW1 HK1
  go_wp2_with fail
  refine (C2.out _ HB2.out).mono ?_
  rintro e w3 ⟨⟨x, rfl, hx⟩, hw⟩
  have HW2 : Hid (Below w.heap.size w w3) := Lib.hid (below_then HB2.out hw)
  have HK2 := Lib.hid (show w3.heap[w.heap.size]? = some (.cells #[.nilIface] 62 (0, 0)) from blk_keep hw KB2.out)
  have k0 : w3.cell? ⟨w.heap.size, 0, none⟩ = some .nilIface := cell_of_row _ _ _ _ _ _ HK2.out
  have z0 : w3.frozen? ⟨w.heap.size, 0, none⟩ = false := blk_free HK2.out 0
  clear hw HB2 KB2 C2
  rcases hx with ⟨rfl, rfl⟩ | ⟨rfl, u, v, rfl⟩
  rotate_left
  · have HFr : Hid (r = false) := Lib.hid (by rw [HR.out]; simp)
    clear C3 HR
    go_wp2_with fail
    refine leaves_cons (f := 80) (args := #[.int .i64 2, .pointer (some ⟨w.heap.size, 0, none⟩)]) (by simp) (by simp [go_sem]) ?_
    have KB2 := heap_set (heap_set HK2.out 0 (.iface u v)) 0 (.iface u v)
    refine (give_err 2 w.heap.size u v .returning _ (cell_of_row _ _ _ _ _ _ KB2) (blk_free KB2 0)).mono ?_
    rintro e u' w'' ⟨rfl, rfl, rfl⟩
    have KB3 := heap_set KB2 0 (ceV u v 2)
    have HZ := QF.out (HFr.out) u v _ (((HW2.out.setCell (p := ⟨w.heap.size, 0, none⟩) (Nat.le_refl _) (.iface u v)).setCell (p := ⟨w.heap.size, 0, none⟩) (Nat.le_refl _) (.iface u v)).setCell (p := ⟨w.heap.size, 0, none⟩) (Nat.le_refl _) (ceV u v 2))
    have k3 := cell_of_row _ _ 0 _ _ _ KB3
    generalize (((w3.setCell ⟨w.heap.size, 0, none⟩ (.iface u v)).setCell ⟨w.heap.size, 0, none⟩ (.iface u v)).setCell ⟨w.heap.size, 0, none⟩ (ceV u v 2)) = W at HZ k3 ⊢
    simp at k3
    refine ⟨ceV u v 2, ?_, HZ⟩
    simp [results, Tryd.results64, go_sem, k3]
  have HB3 := Lib.hid (HW2.out.setCell (p := ⟨w.heap.size, 0, none⟩) (Nat.le_refl _) .nilIface)
  have KB3 : Hid ((w3.setCell ⟨w.heap.size, 0, none⟩ .nilIface).heap[w.heap.size]? = some (.cells #[.nilIface] 62 (0, 0))) := Lib.hid (by simpa using heap_set HK2.out 0 .nilIface)
  clear HW2 HK2
  go_wp2_with fail
  refine (C3.out _ _ (by simp) HB3.out).mono ?_
  rintro e w4 ⟨⟨x, rfl, hx⟩, hw⟩
  have HW3 : Hid (Below w.heap.size w w4) := Lib.hid (by rw [← hw]; exact below_then HB3.out (below_box _ _))
  have HK3 := Lib.hid (show w4.heap[w.heap.size]? = some (.cells #[.nilIface] 62 (0, 0)) by rw [← hw]; exact blk_keep (below_box _ _) KB3.out)
  have k0 : w4.cell? ⟨w.heap.size, 0, none⟩ = some .nilIface := cell_of_row _ _ _ _ _ _ HK3.out
  have z0 : w4.frozen? ⟨w.heap.size, 0, none⟩ = false := blk_free HK3.out 0
  clear hw HB3 KB3 C3
  rcases hx with ⟨rfl, rfl⟩ | ⟨rfl, u, v, rfl⟩
  rotate_left
  · have HFr : Hid (r = false) := Lib.hid (by rw [HR.out]; simp)
    clear HR
    go_wp2_with fail
    refine leaves_cons (f := 80) (args := #[.int .i64 2, .pointer (some ⟨w.heap.size, 0, none⟩)]) (by simp) (by simp [go_sem]) ?_
    have KB2 := heap_set HK3.out 0 (.iface u v)
    refine (give_err 2 w.heap.size u v .returning _ (cell_of_row _ _ _ _ _ _ KB2) (blk_free KB2 0)).mono ?_
    rintro e u' w'' ⟨rfl, rfl, rfl⟩
    have KB3 := heap_set KB2 0 (ceV u v 2)
    have HZ := QF.out (HFr.out) u v _ ((HW3.out.setCell (p := ⟨w.heap.size, 0, none⟩) (Nat.le_refl _) (.iface u v)).setCell (p := ⟨w.heap.size, 0, none⟩) (Nat.le_refl _) (ceV u v 2))
    have k3 := cell_of_row _ _ 0 _ _ _ KB3
    generalize ((w4.setCell ⟨w.heap.size, 0, none⟩ (.iface u v)).setCell ⟨w.heap.size, 0, none⟩ (ceV u v 2)) = W at HZ k3 ⊢
    simp at k3
    refine ⟨ceV u v 2, ?_, HZ⟩
    simp [results, Tryd.results64, go_sem, k3]
  have HTr : Hid (r = true) := Lib.hid (by rw [HR.out]; simp)
  clear HR
  go_wp2_with fail
  refine leaves_cons (f := 80) (args := #[.int .i64 2, .pointer (some ⟨w.heap.size, 0, none⟩)]) (by simp) (by simp [go_sem]) ?_
  have KB2 := heap_set HK3.out 0 .nilIface
  refine (give_nil 2 w.heap.size .returning _ (cell_of_row _ _ _ _ _ _ KB2)).mono ?_
  rintro e u' w'' ⟨rfl, rfl, rfl⟩
  have HZ := QT.out HTr.out _ (HW3.out.setCell (p := ⟨w.heap.size, 0, none⟩) (Nat.le_refl _) .nilIface)
  have k3 := cell_of_row _ _ 0 _ _ _ KB2
  generalize w4.setCell ⟨w.heap.size, 0, none⟩ .nilIface = W at HZ k3 ⊢
  simp at k3
  refine ⟨.nilIface, ?_, HZ⟩
  simp [results, Tryd.results64, go_sem, k3]
set_option maxRecDepth 100000 in
set_option maxHeartbeats 1000000 in
theorem check_folds (len th : Int) (A : Option Addr) (n c : Nat) (d : Nat → Int) (hn : n ≤ 1048576) (w : World) (hA : Nums w w.heap.size A n d) (hC : Sen w 1) (hO : Sen w 3) :
    Calls Tryd.prog 68 #[.int .i64 len, .slice A n c, .int .i64 th] w fun e w' => (∃ x, e = .returned x ∧ CodE 2 (decide (n ≤ 10) && inB len 1 5000 && tv (Al 0 200 n d) && inB th 0 100) x) ∧ Below w.heap.size w w' := by
  have C1 := Lib.hid (fun W p hp (hb : Below w.heap.size w W) => numbers_new 1 5000 [len] (by simp) W p 1 hp rfl (hO.below hb))
  have C2 := Lib.hid (fun W (hb : Below w.heap.size w W) => numbers_any 0 200 A n c d hn W ((hA.below hb (Nat.le_refl _)).more hb.size) (hO.below hb))
  have C3 := Lib.hid (fun W p hp (hb : Below w.heap.size w W) => numbers_new 0 100 [th] (by simp) W p 1 hp rfl (hO.below hb))
  simp only [al_one, List.map_cons, List.map_nil] at C1
  simp only [al_one, List.map_cons, List.map_nil] at C3
  obtain ⟨r, hr⟩ : ∃ r, r = (decide (n ≤ 10) && inB len 1 5000 && tv (Al 0 200 n d) && inB th 0 100) := ⟨_, rfl⟩
  have HR : Hid (r = ((decide (n ≤ 10)) && (inB len 1 5000) && (tv (Al 0 200 n d)) && (inB th 0 100))) := Lib.hid (by rw [hr])
  rw [← hr]
  clear hr
  generalize inB len 1 5000 = r1 at C1 HR
  generalize tv (Al 0 200 n d) = r2 at C2 HR
  generalize inB th 0 100 = r3 at C3 HR
  have QF0 : Hid (r = false → ∀ u v W, Below w.heap.size w W → (∃ x, Ending.returned (ceV u v 2) = .returned x ∧ CodE 2 r x) ∧ Below w.heap.size w W) := Lib.hid fun h u v W hb => ⟨⟨_, rfl, .inr ⟨h, u, v, rfl⟩⟩, hb⟩
  have QT0 : Hid (r = true → ∀ W, Below w.heap.size w W → (∃ x, Ending.returned .nilIface = .returned x ∧ CodE 2 r x) ∧ Below w.heap.size w W) := Lib.hid fun h W hb => ⟨⟨_, rfl, .inl ⟨h, rfl⟩⟩, hb⟩
  obtain ⟨Q, hQ⟩ : ∃ Q : Ending → World → Prop, Q = fun e w' => (∃ x, e = .returned x ∧ CodE 2 r x) ∧ Below w.heap.size w w' := ⟨_, rfl⟩
  have QF : Hid (r = false → ∀ u v W, Below w.heap.size w W → Q (.returned (ceV u v 2)) W) := Lib.hid fun h u v W hb => by rw [hQ]; exact QF0.out h u v W hb
  have QT : Hid (r = true → ∀ W, Below w.heap.size w W → Q (.returned .nilIface) W) := Lib.hid fun h W hb => by rw [hQ]; exact QT0.out h W hb
  rw [← hQ]
  clear hQ QF0 QT0
  have HB := Lib.hid (below_box w (.cells #[.nilIface] 62))
  have KB := Lib.hid (heap_alloc_new w (.cells #[.nilIface] 62))
  have HC := Lib.hid hC
  clear hC
  clear hO hA
  go_enter_defers Tryd.func68, Tryd.ntmps68
  by_cases h10 : 10 < n
  · have h10' : (10 : Int) < (n : Int) := by omega
    obtain ⟨uc, vc, hc⟩ := HC.out.below HB.out
    have k0 := cell_of_row _ _ 0 _ _ _ KB.out
    have z0 := blk_free KB.out 0
    have HFr : Hid (r = false) := Lib.hid (by rw [HR.out, decide_eq_false (by omega)]; rfl)
    clear C1 C2 C3 HR
    go_wp2_with fail
    refine leaves_cons (f := 80) (args := #[.int .i64 2, .pointer (some ⟨w.heap.size, 0, none⟩)]) (by simp) (by simp [go_sem]) ?_
    have KB2 := heap_alloc_new w (.cells #[.iface uc vc] 62)
    refine (give_err 2 w.heap.size uc vc .returning _ (cell_of_row _ _ _ _ _ _ KB2) (blk_free KB2 0)).mono ?_
    rintro e u' w'' ⟨rfl, rfl, rfl⟩
    have KB3 := heap_set KB2 0 (ceV uc vc 2)
    have HZ := QF.out (HFr.out) uc vc _ ((below_box w (.cells #[.iface uc vc] 62)).setCell (p := ⟨w.heap.size, 0, none⟩) (Nat.le_refl _) (ceV uc vc 2))
    have k3 := cell_of_row _ _ 0 _ _ _ KB3
    generalize ((w.alloc (.cells #[.iface uc vc] 62)).setCell ⟨w.heap.size, 0, none⟩ (ceV uc vc 2)) = W at HZ k3 ⊢
    simp at k3
    refine ⟨ceV uc vc 2, ?_, HZ⟩
    simp [results, Tryd.results68, go_sem, k3]
  have h10' : ¬ (10 : Int) < (n : Int) := by omega
  have HR1 : Hid (r = (r1 && r2 && r3)) := Lib.hid (by rw [HR.out, decide_eq_true (by omega)]; simp only [Bool.true_and])
  clear HR HC
  go_wp2_with fail
  refine (C1.out _ _ (by simp) HB.out).mono ?_
  rintro e w2 ⟨⟨x, rfl, hx⟩, hw⟩
  have HW1 : Hid (Below w.heap.size w w2) := Lib.hid (by rw [← hw]; exact below_then HB.out (below_box _ _))
  have HK1 := Lib.hid (show w2.heap[w.heap.size]? = some (.cells #[.nilIface] 62 (0, 0)) by rw [← hw]; exact blk_keep (below_box _ _) KB.out)
  have k0 : w2.cell? ⟨w.heap.size, 0, none⟩ = some .nilIface := cell_of_row _ _ _ _ _ _ HK1.out
  have z0 : w2.frozen? ⟨w.heap.size, 0, none⟩ = false := blk_free HK1.out 0
  clear hw HB KB C1
  rcases hx with ⟨rfl, rfl⟩ | ⟨rfl, u, v, rfl⟩
  rotate_left
  · have HFr : Hid (r = false) := Lib.hid (by rw [HR1.out]; simp)
    clear C2 C3 HR1
    go_wp2_with fail
    refine leaves_cons (f := 80) (args := #[.int .i64 2, .pointer (some ⟨w.heap.size, 0, none⟩)]) (by simp) (by simp [go_sem]) ?_
    have KB2 := heap_set (heap_set HK1.out 0 (.iface u v)) 0 (.iface u v)
    refine (give_err 2 w.heap.size u v .returning _ (cell_of_row _ _ _ _ _ _ KB2) (blk_free KB2 0)).mono ?_
    rintro e u' w'' ⟨rfl, rfl, rfl⟩
    have KB3 := heap_set KB2 0 (ceV u v 2)
    have HZ := QF.out (HFr.out) u v _ (((HW1.out.setCell (p := ⟨w.heap.size, 0, none⟩) (Nat.le_refl _) (.iface u v)).setCell (p := ⟨w.heap.size, 0, none⟩) (Nat.le_refl _) (.iface u v)).setCell (p := ⟨w.heap.size, 0, none⟩) (Nat.le_refl _) (ceV u v 2))
    have k3 := cell_of_row _ _ 0 _ _ _ KB3
    generalize (((w2.setCell ⟨w.heap.size, 0, none⟩ (.iface u v)).setCell ⟨w.heap.size, 0, none⟩ (.iface u v)).setCell ⟨w.heap.size, 0, none⟩ (ceV u v 2)) = W at HZ k3 ⊢
    simp at k3
    refine ⟨ceV u v 2, ?_, HZ⟩
    simp [results, Tryd.results68, go_sem, k3]
  have HB2 := Lib.hid (HW1.out.setCell (p := ⟨w.heap.size, 0, none⟩) (Nat.le_refl _) .nilIface)
  have KB2 : Hid ((w2.setCell ⟨w.heap.size, 0, none⟩ .nilIface).heap[w.heap.size]? = some (.cells #[.nilIface] 62 (0, 0))) := Lib.hid (by simpa using heap_set HK1.out 0 .nilIface)
  clear HW1 HK1
  go_wp2_with fail
  refine (C2.out _ HB2.out).mono ?_
  rintro e w3 ⟨⟨x, rfl, hx⟩, hw⟩
  have HW2 : Hid (Below w.heap.size w w3) := Lib.hid (by rw [← hw]; exact HB2.out)
  have HK2 := Lib.hid (show w3.heap[w.heap.size]? = some (.cells #[.nilIface] 62 (0, 0)) by rw [← hw]; exact KB2.out)
  have k0 : w3.cell? ⟨w.heap.size, 0, none⟩ = some .nilIface := cell_of_row _ _ _ _ _ _ HK2.out
  have z0 : w3.frozen? ⟨w.heap.size, 0, none⟩ = false := blk_free HK2.out 0
  clear hw HB2 KB2 C2
  rcases hx with ⟨rfl, rfl⟩ | ⟨rfl, u, v, rfl⟩
  rotate_left
  · have HFr : Hid (r = false) := Lib.hid (by rw [HR1.out]; simp)
    clear C3 HR1
    go_wp2_with fail
    refine leaves_cons (f := 80) (args := #[.int .i64 2, .pointer (some ⟨w.heap.size, 0, none⟩)]) (by simp) (by simp [go_sem]) ?_
    have KB2 := heap_set (heap_set HK2.out 0 (.iface u v)) 0 (.iface u v)
    refine (give_err 2 w.heap.size u v .returning _ (cell_of_row _ _ _ _ _ _ KB2) (blk_free KB2 0)).mono ?_
    rintro e u' w'' ⟨rfl, rfl, rfl⟩
    have KB3 := heap_set KB2 0 (ceV u v 2)
    have HZ := QF.out (HFr.out) u v _ (((HW2.out.setCell (p := ⟨w.heap.size, 0, none⟩) (Nat.le_refl _) (.iface u v)).setCell (p := ⟨w.heap.size, 0, none⟩) (Nat.le_refl _) (.iface u v)).setCell (p := ⟨w.heap.size, 0, none⟩) (Nat.le_refl _) (ceV u v 2))
    have k3 := cell_of_row _ _ 0 _ _ _ KB3
    generalize (((w3.setCell ⟨w.heap.size, 0, none⟩ (.iface u v)).setCell ⟨w.heap.size, 0, none⟩ (.iface u v)).setCell ⟨w.heap.size, 0, none⟩ (ceV u v 2)) = W at HZ k3 ⊢
    simp at k3
    refine ⟨ceV u v 2, ?_, HZ⟩
    simp [results, Tryd.results68, go_sem, k3]
  have HB3 := Lib.hid (HW2.out.setCell (p := ⟨w.heap.size, 0, none⟩) (Nat.le_refl _) .nilIface)
  have KB3 : Hid ((w3.setCell ⟨w.heap.size, 0, none⟩ .nilIface).heap[w.heap.size]? = some (.cells #[.nilIface] 62 (0, 0))) := Lib.hid (by simpa using heap_set HK2.out 0 .nilIface)
  clear HW2 HK2
  go_wp2_with fail
  refine (C3.out _ _ (by simp) HB3.out).mono ?_
  rintro e w4 ⟨⟨x, rfl, hx⟩, hw⟩
  have HW3 : Hid (Below w.heap.size w w4) := Lib.hid (by rw [← hw]; exact below_then HB3.out (below_box _ _))
  have HK3 := Lib.hid (show w4.heap[w.heap.size]? = some (.cells #[.nilIface] 62 (0, 0)) by rw [← hw]; exact blk_keep (below_box _ _) KB3.out)
  have k0 : w4.cell? ⟨w.heap.size, 0, none⟩ = some .nilIface := cell_of_row _ _ _ _ _ _ HK3.out
  have z0 : w4.frozen? ⟨w.heap.size, 0, none⟩ = false := blk_free HK3.out 0
  clear hw HB3 KB3 C3
  rcases hx with ⟨rfl, rfl⟩ | ⟨rfl, u, v, rfl⟩
  rotate_left
  · have HFr : Hid (r = false) := Lib.hid (by rw [HR1.out]; simp)
    clear HR1
    go_wp2_with fail
    refine leaves_cons (f := 80) (args := #[.int .i64 2, .pointer (some ⟨w.heap.size, 0, none⟩)]) (by simp) (by simp [go_sem]) ?_
    have KB2 := heap_set HK3.out 0 (.iface u v)
    refine (give_err 2 w.heap.size u v .returning _ (cell_of_row _ _ _ _ _ _ KB2) (blk_free KB2 0)).mono ?_
    rintro e u' w'' ⟨rfl, rfl, rfl⟩
    have KB3 := heap_set KB2 0 (ceV u v 2)
    have HZ := QF.out (HFr.out) u v _ ((HW3.out.setCell (p := ⟨w.heap.size, 0, none⟩) (Nat.le_refl _) (.iface u v)).setCell (p := ⟨w.heap.size, 0, none⟩) (Nat.le_refl _) (ceV u v 2))
    have k3 := cell_of_row _ _ 0 _ _ _ KB3
    generalize ((w4.setCell ⟨w.heap.size, 0, none⟩ (.iface u v)).setCell ⟨w.heap.size, 0, none⟩ (ceV u v 2)) = W at HZ k3 ⊢
    simp at k3
    refine ⟨ceV u v 2, ?_, HZ⟩
    simp [results, Tryd.results68, go_sem, k3]
  have HTr : Hid (r = true) := Lib.hid (by rw [HR1.out]; simp)
  clear HR1
  go_wp2_with fail
  refine leaves_cons (f := 80) (args := #[.int .i64 2, .pointer (some ⟨w.heap.size, 0, none⟩)]) (by simp) (by simp [go_sem]) ?_
  have KB2 := heap_set HK3.out 0 .nilIface
  refine (give_nil 2 w.heap.size .returning _ (cell_of_row _ _ _ _ _ _ KB2)).mono ?_
  rintro e u' w'' ⟨rfl, rfl, rfl⟩
  have HZ := QT.out HTr.out _ (HW3.out.setCell (p := ⟨w.heap.size, 0, none⟩) (Nat.le_refl _) .nilIface)
  have k3 := cell_of_row _ _ 0 _ _ _ KB2
  generalize w4.setCell ⟨w.heap.size, 0, none⟩ .nilIface = W at HZ k3 ⊢
  simp at k3
  refine ⟨.nilIface, ?_, HZ⟩
  simp [results, Tryd.results68, go_sem, k3]
end Go.Proofs.YtpmmfalpcooenaaDoor.C9k
