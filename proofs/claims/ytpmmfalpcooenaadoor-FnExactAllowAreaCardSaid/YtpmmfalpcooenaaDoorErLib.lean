/- Checks of chapter 9: an error of a check, wrapped with its code by a deferred call; the code that is told. -/
import Derived.Test.YtpmmfalpcooenaaDoorEcLib
import Derived.Test.YtpmmfalpcooenaaDoorAwLib
import Derived.Test.YtpmmfalpcooenaaDoorIcLib
import Derived.Test.YtpmmfalpcooenaaDoorStvLib
import Derived.Defers
import Derived.Tactics2
namespace Go.Proofs.YtpmmfalpcooenaaDoor.Er
set_option linter.unusedVariables false
open Go.RowKit Ft Is Ge Qb Ly Stv Ec

/-- A variable that holds an error. -/
def Sen (w : World) (g : Nat) : Prop := ∃ u v, w.cell? ⟨g, 0, none⟩ = some (.iface u v)
theorem Sen.below {w w' : World} {g : Nat} (h : Sen w g) (hb : Below w.heap.size w w') : Sen w' g := by
  obtain ⟨u, v, h⟩ := h
  exact ⟨u, v, (hb.cell (p := ⟨g, 0, none⟩) (World.block_lt_of_cell? w _ h)).trans h⟩
/-- The variables of the checks. -/
structure V2 (w : World) : Prop where
  cnt : Sen w 1
  out : Sen w 3
structure V3 (w : World) : Prop where
  cnt : Sen w 1
  out : Sen w 3
  ety : EtyAt w
structure V4 (w : World) : Prop where
  cnt : Sen w 1
  out : Sen w 3
  ord : Sen w 4
  ety : EtyAt w
theorem V3.below {w w' : World} (h : V3 w) (hb : Below w.heap.size w w') : V3 w' := ⟨h.cnt.below hb, h.out.below hb, h.ety.below hb⟩
theorem V4.below {w w' : World} (h : V4 w) (hb : Below w.heap.size w w') : V4 w' := ⟨h.cnt.below hb, h.out.below hb, h.ord.below hb, h.ety.below hb⟩
/-- nil or an error. -/
def RawE (b : Bool) (x : Value) : Prop := (b = true ∧ x = .nilIface) ∨ (b = false ∧ ∃ u v, x = .iface u v)
/-- nil or an error with its code. -/
def CodE (code : Int) (b : Bool) (x : Value) : Prop := (b = true ∧ x = .nilIface) ∨ (b = false ∧ ∃ u v, x = ceV u v code)
theorem numbers_any (lo hi : Int) (A : Option Addr) (n c : Nat) (d : Nat → Int) (hn : n ≤ 1048576) (w : World) (hA : Nums w w.heap.size A n d) (hV : Sen w 3) :
    Calls Tryd.prog 85 #[.int .i64 lo, .int .i64 hi, .slice A n c] w fun e w' => (∃ x, e = .returned x ∧ RawE (tv (Al lo hi n d)) x) ∧ w = w' := by
  have C := Lib.hid (are_any lo hi A n c d hn w hA)
  obtain ⟨u, v, hv⟩ := hV
  generalize tv (Al lo hi n d) = r at C ⊢
  clear hA
  go_enter Tryd.func85, Tryd.ntmps85
  go_wp2_with fail
  refine C.out.mono ?_
  rintro e w' ⟨rfl, rfl⟩
  cases r
  · go_wp2_with fail
    go_ret
    exact ⟨⟨_, rfl, .inr ⟨rfl, u, v, rfl⟩⟩, rfl⟩
  · go_wp2_with fail
    go_ret
    exact ⟨⟨_, rfl, .inl ⟨rfl, rfl⟩⟩, rfl⟩
theorem nums_new (w : World) (l : List Int) (t : TypeId) : Nums (w.alloc (.cells (l.map fun x => .int .i64 x).toArray t)) (w.alloc (.cells (l.map fun x => .int .i64 x).toArray t)).heap.size (some ⟨w.heap.size, 0, none⟩) l.length (fun i => l.getD i 0) := fun _ =>
  ⟨w.heap.size, 0, rfl, by simp, fun i hi => by
    rw [Nat.zero_add, cell_of_row _ _ _ _ _ (0, 0) (heap_alloc_new _ _)]
    simp [hi]⟩
theorem al_one {lo hi a : Int} : tv (Al lo hi 1 (fun i => [a].getD i 0)) = inB a lo hi := by
  by_cases h : inB a lo hi = true
  · rw [tv_yes (show Al lo hi 1 _ from fun i q => by
      obtain rfl : i = 0 := by omega
      exact h), h]
  · rw [tv_no fun e => h (e 0 (by omega))]; simpa using h
theorem al_two {lo hi a b : Int} : tv (Al lo hi 2 (fun i => [a, b].getD i 0)) = (inB a lo hi && inB b lo hi) := by
  by_cases h : (inB a lo hi && inB b lo hi) = true
  · rw [h]
    simp only [Bool.and_eq_true] at h
    exact tv_yes (show Al lo hi 2 _ from fun i q => by
      have R : i = 0 ∨ i = 1 := by omega
      rcases R with rfl | rfl
      · exact h.1
      · exact h.2)
  · rw [tv_no fun e => h (by simp only [Bool.and_eq_true]; exact ⟨e 0 (by omega), e 1 (by omega)⟩)]; simpa using h
theorem al_three {lo hi a b c : Int} : tv (Al lo hi 3 (fun i => [a, b, c].getD i 0)) = (inB a lo hi && inB b lo hi && inB c lo hi) := by
  by_cases h : (inB a lo hi && inB b lo hi && inB c lo hi) = true
  · rw [h]
    simp only [Bool.and_eq_true] at h
    exact tv_yes (show Al lo hi 3 _ from fun i q => by
      have R : i = 0 ∨ i = 1 ∨ i = 2 := by omega
      rcases R with rfl | rfl | rfl
      · exact h.1.1
      · exact h.1.2
      · exact h.2)
  · rw [tv_no fun e => h (by simp only [Bool.and_eq_true]; exact ⟨⟨e 0 (by omega), e 1 (by omega)⟩, e 2 (by omega)⟩)]; simpa using h
theorem numbers_new (lo hi : Int) (l : List Int) (hl : l.length ≤ 1048576) (W : World) (p n : Nat) (hp : W.heap.size = p) (hn : l.length = n) (hV : Sen W 3) :
    Calls Tryd.prog 85 #[.int .i64 lo, .int .i64 hi, .slice (some ⟨p, 0, none⟩) n n] (W.alloc (.cells (l.map fun x => .int .i64 x).toArray 2)) fun e w' => (∃ x, e = .returned x ∧ RawE (tv (Al lo hi n (fun i => l.getD i 0))) x) ∧ W.alloc (.cells (l.map fun x => .int .i64 x).toArray 2) = w' := by
  subst hp hn
  exact numbers_any lo hi _ _ _ (fun i => l.getD i 0) hl _ (nums_new W l _) (hV.below (below_box _ _))
set_option maxRecDepth 100000 in
theorem check_any (a b c d : Int) (w : World) (hV : Sen w 3) :
    Calls Tryd.prog 72 #[Str.reV a b c d] w fun e w' => (∃ x, e = .returned x ∧ RawE (stB a b c d) x) ∧ Below w.heap.size w w' := by
  have HB := Lib.hid (below_box w (Str.reC a b c d 54))
  have KB := Lib.hid (heap_alloc_new w (Str.reC a b c d 54))
  have C0 := Lib.hid (fun W p hp (hb : Below w.heap.size w W) => numbers_new 1 5000 [a] (by simp) W p 1 hp rfl (hV.below hb))
  have C1 := Lib.hid (fun W p hp (hb : Below w.heap.size w W) => numbers_new 0 200 [b, c, d] (by simp) W p 3 hp rfl (hV.below hb))
  simp only [al_one, al_three, List.map_cons, List.map_nil] at C0 C1
  have HE : Hid (stB a b c d = (inB a 1 5000 && (inB b 0 200 && inB c 0 200 && inB d 0 200))) := Lib.hid (by unfold stB; simp only [Bool.and_assoc])
  generalize inB a 1 5000 = r0 at C0 HE
  generalize (inB b 0 200 && inB c 0 200 && inB d 0 200) = r1 at C1 HE
  generalize stB a b c d = r at HE ⊢
  clear hV
  unfold Str.reV
  go_enter Tryd.func72, Tryd.ntmps72
  go_wp2_with fail
  refine (C0.out _ _ (by simp) HB.out).mono ?_
  rintro e w1 ⟨⟨x, rfl, hx⟩, hw⟩
  have HB1 : Hid (Below w.heap.size w w1) := Lib.hid (by rw [← hw]; exact below_then HB.out (below_box _ _))
  have KB1 : Hid (w1.heap[w.heap.size]? = some (Str.reC a b c d 54)) := Lib.hid (by rw [← hw]; exact blk_keep (below_box _ _) KB.out)
  clear hw KB HB C0
  rcases hx with ⟨rfl, rfl⟩ | ⟨rfl, u, v, rfl⟩
  · obtain ⟨x0, x1, x2, x3⟩ : w1.cell? ⟨w.heap.size, 0, none⟩ = some (.int .i64 a) ∧ w1.cell? ⟨w.heap.size, 1, none⟩ = some (.int .i64 b) ∧ w1.cell? ⟨w.heap.size, 2, none⟩ = some (.int .i64 c) ∧ w1.cell? ⟨w.heap.size, 3, none⟩ = some (.int .i64 d) := ⟨cell_of_row _ _ _ _ _ _ KB1.out, cell_of_row _ _ _ _ _ _ KB1.out, cell_of_row _ _ _ _ _ _ KB1.out, cell_of_row _ _ _ _ _ _ KB1.out⟩
    go_wp2_with fail
    refine (C1.out _ _ rfl HB1.out).mono ?_
    rintro e w2 ⟨⟨x, rfl, hx⟩, hw⟩
    have HB2 : Hid (Below w.heap.size w w2) := Lib.hid (by rw [← hw]; exact below_then HB1.out (below_box _ _))
    clear hw x0 x1 x2 x3
    go_wp2_with fail
    go_ret
    exact ⟨⟨_, rfl, by rw [HE.out]; simpa using hx⟩, HB2.out⟩
  · go_wp2_with fail
    go_ret
    exact ⟨⟨_, rfl, .inr ⟨by rw [HE.out]; rfl, u, v, rfl⟩⟩, HB1.out⟩
theorem give_nil (code : Int) (p : Nat) (u : FrameMode) (w : World) (hc : w.cell? ⟨p, 0, none⟩ = some .nilIface) :
    CallsD Tryd.prog 80 #[.int .i64 code, .pointer (some ⟨p, 0, none⟩)] u w fun e u' w' => u' = u ∧ (e = .returned (.tuple #[]) ∧ w' = w) := by
  go_enter_d Tryd.func80, Tryd.ntmps80
  go_wp2_with fail
  go_end0
  exact ⟨rfl, rfl⟩
theorem give_err (code : Int) (p : Nat) (t : TypeId) (x : Value) (u : FrameMode) (w : World) (hc : w.cell? ⟨p, 0, none⟩ = some (.iface t x)) (hf : w.frozen? ⟨p, 0, none⟩ = false) :
    CallsD Tryd.prog 80 #[.int .i64 code, .pointer (some ⟨p, 0, none⟩)] u w fun e u' w' => u' = u ∧ (e = .returned (.tuple #[]) ∧ w' = w.setCell ⟨p, 0, none⟩ (ceV t x code)) := by
  go_enter_d Tryd.func80, Tryd.ntmps80
  go_wp2_with fail
  go_end0
  exact ⟨rfl, rfl⟩
theorem code_of (code : Int) (b : Bool) (x : Value) (hx : CodE code b x) (w : World) (hE : EtyAt w) :
    Calls Tryd.prog 50 #[x] w fun e w' => e = .returned (.int .i64 (if b = true then 0 else code)) ∧ Below w.heap.size w w' := by
  have HB := Lib.hid (below_box w (.cells #[.nilIface, .int .i64 0] 109))
  have KB := Lib.hid (heap_alloc_new w (.cells #[.nilIface, .int .i64 0] 109))
  rcases hx with ⟨rfl, rfl⟩ | ⟨rfl, u, v, rfl⟩
  · go_enter Tryd.func50, Tryd.ntmps50
    go_wp2_with fail
    refine (Ea.as_nil _ _).mono ?_
    rintro e w' ⟨rfl, rfl⟩
    go_wp2_with fail
    go_ret
    exact ⟨rfl, HB.out⟩
  · have C := Lib.hid (as_hit u v code w.heap.size .nilIface (.int .i64 0) _ (hE.below HB.out) (cell_of_row _ _ _ _ _ _ KB.out) (cell_of_row _ _ _ _ _ _ KB.out) (blk_free KB.out 0) (blk_free KB.out 1))
    unfold ceV at C ⊢
    clear hE
    go_enter Tryd.func50, Tryd.ntmps50
    go_wp2_with fail
    refine C.out.mono ?_
    rintro e w' ⟨rfl, q, hq, rfl⟩
    have hb := Lib.hid (below_then HB.out hq)
    have kq := Lib.hid (blk_keep hq KB.out)
    have k0 : q.cell? ⟨w.heap.size, 0, none⟩ = some .nilIface := cell_of_row _ _ _ _ _ _ kq.out
    have k1 : q.cell? ⟨w.heap.size, 1, none⟩ = some (.int .i64 0) := cell_of_row _ _ _ _ _ _ kq.out
    clear hq C KB HB
    go_wp2_with fail
    go_ret
    exact ⟨rfl, (hb.out.setCell (p := ⟨w.heap.size, 0, none⟩) (Nat.le_refl _) _).setCell (p := ⟨w.heap.size, 1, none⟩) (Nat.le_refl _) _⟩
end Go.Proofs.YtpmmfalpcooenaaDoor.Er
