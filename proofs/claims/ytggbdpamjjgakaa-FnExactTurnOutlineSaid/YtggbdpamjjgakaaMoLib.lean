/- The program's motions of outlines, and slices.Reverse of spots. -/
import Derived.Test.YtggbdpamjjgakaaBpLib
import Derived.Test.YtggbdpamjjgakaaBwLib
namespace Go.Proofs.Ytggbdpamjjgakaa.Mo
set_option linter.unusedVariables false
open Go.RowKit Ft Is Ge Qb Ol Ot Opl Oq Oi Oj Ok Om Bo Bp Bw

theorem method_mi (w : World) : (method 239 75 (.agg #[]) "loop.example/g01043/impl.of").run Try.prog w = .ok (133, .agg #[]) w := by kernel_rfl
set_option maxRecDepth 100000 in
theorem imir (a b : Int) (h : IntKind.i64.wrap (-a) = -a) (w : World) : Calls Try.prog 133 #[.agg #[], spV a b] w fun e w' => e = .returned (spV (-a) b) ∧ Below w.heap.size w w' := by
  unfold spV
  go_enter Try.func133, Try.ntmps133
  go_wp2
  exact bodyPost_ret (v := .agg #[.int .i64 (-a), .int .i64 b]) (by simp [results, Try.results133, go_sem]) rfl ⟨rfl, by repeat (first | exact Below.refl _ _ | exact below_box _ _ | refine Below.setCell ?_ (by simp <;> omega) _ | refine Below.alloc ?_ (by simp <;> omega) _)⟩
/-- As many turns by a right angle. -/
def rotN : Nat → Pt → Pt
  | 0, p => p
  | k + 1, p => (-(rotN k p).2, (rotN k p).1)
theorem rot_bd {p : Pt} (h : (-10000 ≤ p.1 ∧ p.1 ≤ 10000) ∧ (-10000 ≤ p.2 ∧ p.2 ≤ 10000)) : ∀ k, (-10000 ≤ (rotN k p).1 ∧ (rotN k p).1 ≤ 10000) ∧ (-10000 ≤ (rotN k p).2 ∧ (rotN k p).2 ≤ 10000)
  | 0 => h
  | k + 1 => by
    obtain ⟨h1, h2⟩ := rot_bd h k
    show (-10000 ≤ -(rotN k p).2 ∧ -(rotN k p).2 ≤ 10000) ∧ (-10000 ≤ (rotN k p).1 ∧ (rotN k p).1 ≤ 10000)
    omega
theorem method_qt (q : Int) (w : World) : (method 239 77 (.int .i64 q) "loop.example/g01043/impl.of").run Try.prog w = .ok (134, .int .i64 q) w := by kernel_rfl
set_option maxRecDepth 100000 in
set_option maxHeartbeats 1000000 in
theorem irot (q : Nat) (hq : q ≤ 3) (p : Pt) (hp : (-10000 ≤ p.1 ∧ p.1 ≤ 10000) ∧ (-10000 ≤ p.2 ∧ p.2 ≤ 10000)) (w : World) : Calls Try.prog 134 #[.int .i64 (q : Int), spV p.1 p.2] w fun e w' => e = .returned (spV (rotN q p).1 (rotN q p).2) ∧ Below w.heap.size w w' := by
  have HB0 := Lib.hid (rot_bd hp)
  have HS : Hid (∀ k, rotN (k + 1) p = (-(rotN k p).2, (rotN k p).1)) := Lib.hid fun k => rfl
  have HS0 : Hid (rotN 0 p = p) := Lib.hid rfl
  generalize (fun k => rotN k p) = R0 at *
  generalize hR : rotN = RR at *
  have HRR : Hid (∀ k, RR k p = RR k p) := Lib.hid fun _ => rfl
  obtain ⟨p0, p1⟩ := p
  obtain ⟨k0, k1⟩ := two w (spC p0 p1 38) (spC 0 0 38)
  have B0 := Lib.hid (below2 w (spC p0 p1 38) (spC 0 0 38))
  have K1 := Lib.hid k1
  have K0 := Lib.hid k0
  have F0 : Hid (((w.alloc (spC p0 p1 38)).alloc (spC 0 0 38)).heap[w.heap.size]? = some (spC (RR 0 (p0, p1)).1 (RR 0 (p0, p1)).2 38)) := Lib.hid (by rw [HS0.out]; exact k0)
  generalize hF : (fun k => RR k (p0, p1)) = F at *
  have HF : Hid (∀ k, RR k (p0, p1) = F k) := Lib.hid fun k => by rw [← hF]
  have e3 : (q : Int) ≤ 3 := by omega
  have e0 : (0 : Int) ≤ (q : Int) := Int.natCast_nonneg _
  simp only [spV]
  rw [HF.out q]
  have F0 : Hid (((w.alloc (spC p0 p1 38)).alloc (spC 0 0 38)).heap[w.heap.size]? = some (spC (F 0).1 (F 0).2 38)) := Lib.hid (by rw [← HF.out 0]; exact F0.out)
  have HBF : Hid (∀ k, (-10000 ≤ (F k).1 ∧ (F k).1 ≤ 10000) ∧ (-10000 ≤ (F k).2 ∧ (F k).2 ≤ 10000)) := Lib.hid fun k => by rw [← HF.out k]; exact HB0.out k
  have HSF : Hid (∀ k, F (k + 1) = (-(F k).2, (F k).1)) := Lib.hid fun k => by rw [← HF.out k, ← HF.out (k + 1)]; exact HS.out k
  clear hF hR k0 k1 K0 HB0 HS HS0 HRR HF hp
  go_enter Try.func134, Try.ntmps134
  go_upto_region 2 with fail
  generalize hw2 : (w.alloc _).alloc _ = w2 at K1 B0 F0 ⊢
  have hz2 : w2.heap.size = w.heap.size + 2 := by rw [← hw2]; simp
  clear hw2
  go_loopw [6] (fun i wr => ∃ k : Nat, k ≤ q ∧ i = .int .i64 (k : Int) ∧ Hid (Below w.heap.size w wr) ∧ Hid (wr.heap[w.heap.size + 1]? = some (spC 0 0 38)) ∧ Hid (wr.heap[w.heap.size]? = some (spC (F k).1 (F k).2 38))) (fun i _ => q - (intOf i).toNat)
  case atStart => exact ⟨0, Nat.zero_le _, rfl, B0, K1, F0⟩
  case round =>
    obtain ⟨k, hk, rfl, HB, HK1, HK0⟩ := hrel
    have f0 : (0 : Int) ≤ (k : Int) := Int.natCast_nonneg _
    have hl1 := lt_of_heap HK1.out
    have hl0 := lt_of_heap HK0.out
    by_cases hlt : k < q
    · have HSk := Lib.hid (HSF.out k)
      have hb := HBF.out k
      generalize hs : F k = s at HK0 HSk hb
      clear hs
      obtain ⟨s0, s1⟩ := s
      simp only at HK0 HSk hb
      have w1 := wr_in (x := -s1) (by omega)
      have g1 : (k : Int) < (q : Int) := by omega
      obtain ⟨y0, y1⟩ := blk2 HK0.out
      have fz := blk_free HK0.out
      clear hk
      go_wp2_with fail
      have HB8 := Lib.hid ((HB.out.setCell (p := ⟨w.heap.size, 0, none⟩) (by simp) (.int .i64 (-s1))).setCell (p := ⟨w.heap.size, 1, none⟩) (by simp) (.int .i64 s0))
      have K08 : Hid (((wr.setCell ⟨w.heap.size, 0, none⟩ (.int .i64 (-s1))).setCell ⟨w.heap.size, 1, none⟩ (.int .i64 s0)).heap[w.heap.size]? = some (spC (-s1) s0 38)) := Lib.hid (heap_set (heap_set HK0.out 0 _) 1 _)
      have K18 : Hid (((wr.setCell ⟨w.heap.size, 0, none⟩ (.int .i64 (-s1))).setCell ⟨w.heap.size, 1, none⟩ (.int .i64 s0)).heap[w.heap.size + 1]? = some (spC 0 0 38)) := Lib.hid ((Below.heap_setCell _ _ _ _ (by simp)).trans ((Below.heap_setCell _ _ _ _ (by simp)).trans HK1.out))
      go_roundw
      case rel => exact ⟨k + 1, by omega, by go_num, HB8, K18, by rw [HSk.out]; exact K08⟩
      case measure => simp [intOf]; omega
    · obtain rfl : q = k := by omega
      have g1 : ¬ (q : Int) < (q : Int) := by omega
      generalize hs : F q = s at HK0
      have HE := Lib.hid hs
      clear hs
      obtain ⟨s0, s1⟩ := s
      simp only at HK0
      obtain ⟨y0, y1⟩ := blk2 HK0.out
      obtain ⟨z0, z1⟩ := blk2 HK1.out
      have fz := blk_free HK1.out
      clear hk hlt
      go_wp2_with fail
      exact bodyPost_ret (v := .agg #[.int .i64 s0, .int .i64 s1]) (by simp [results, Try.results134, go_sem, z0, z1]) rfl ⟨by rw [HE.out], (HB.out.setCell (by simp) _).setCell (by simp) _⟩
/-- A list turned round. -/
def rv (n : Nat) (h : Nat → Int) (k : Nat) : Int := h ((n - 1 - k / 2) * 2 + k % 2)
/-- Turned round as far as i from both ends. -/
def rvp (n i : Nat) (h : Nat → Int) (k : Nat) : Int := if k / 2 < i ∨ n - 1 - k / 2 < i then rv n h k else h k
theorem rvp_0 (n : Nat) (h : Nat → Int) (k : Nat) : rvp n 0 h k = h k := by unfold rvp; rw [if_neg (by omega)]
theorem rvp_end {n i : Nat} (h : Nat → Int) (hi : n - 1 ≤ i + i) {k : Nat} (hk : k < n * 2) : rvp n i h k = rv n h k := by
  unfold rvp
  split
  · rfl
  · unfold rv
    have : n - 1 - k / 2 = k / 2 := by omega
    rw [this]
    congr 1
    omega
theorem rvp_step {n i : Nat} {h : Nat → Int} (hi : i + i < n - 1) {k : Nat} (hk : k < n * 2) : rvp n (i + 1) h k = if k = i * 2 then rvp n i h ((n - 1 - i) * 2) else if k = i * 2 + 1 then rvp n i h ((n - 1 - i) * 2 + 1) else if k = (n - 1 - i) * 2 then rvp n i h (i * 2) else if k = (n - 1 - i) * 2 + 1 then rvp n i h (i * 2 + 1) else rvp n i h k := by
  have v : ∀ {x : Nat}, x / 2 = i ∨ x / 2 = n - 1 - i → rvp n i h x = h x := fun {x} hx => by unfold rvp; rw [if_neg (by omega)]
  split
  · rename_i e
    rw [v (by omega)]
    unfold rvp
    rw [if_pos (by omega)]
    unfold rv
    congr 1
    omega
  · split
    · rename_i _ e
      rw [v (by omega)]
      unfold rvp
      rw [if_pos (by omega)]
      unfold rv
      congr 1
      omega
    · split
      · rename_i _ _ e
        rw [v (by omega)]
        unfold rvp
        rw [if_pos (by omega)]
        unfold rv
        congr 1
        omega
      · split
        · rename_i _ _ _ e
          rw [v (by omega)]
          unfold rvp
          rw [if_pos (by omega)]
          unfold rv
          congr 1
          omega
        · rename_i c1 c2 c3 c4
          unfold rvp
          have : (k / 2 < i + 1 ∨ n - 1 - k / 2 < i + 1) ↔ (k / 2 < i ∨ n - 1 - k / 2 < i) := by omega
          simp only [this]
theorem at_four {w : World} {g n i : Nat} {h : Nat → Int} (hi : i + i < n - 1) (hA : Ge.At w g (n * 2) (rvp n i h)) {a b c d : Int} (ea : a = rvp n i h ((n - 1 - i) * 2)) (eb : b = rvp n i h ((n - 1 - i) * 2 + 1)) (ec : c = rvp n i h (i * 2)) (ed : d = rvp n i h (i * 2 + 1)) :
    Ge.At ((((w.setCell ⟨g, i * 2, none⟩ (.int .i64 a)).setCell ⟨g, i * 2 + 1, none⟩ (.int .i64 b)).setCell ⟨g, (n - 1 - i) * 2, none⟩ (.int .i64 c)).setCell ⟨g, (n - 1 - i) * 2 + 1, none⟩ (.int .i64 d)) g (n * 2) (rvp n (i + 1) h) := by
  subst ea eb ec ed
  have hne : ∀ {x y : Nat}, x ≠ y → (⟨g, x, none⟩ : Addr) ≠ ⟨g, y, none⟩ := fun hxy q => hxy (Addr.mk.inj q).2.1
  have hv : ∀ {w : World} {x y : Nat} {u : Value} {v : Value}, w.cell? ⟨g, y, none⟩ = some v → (w.setCell ⟨g, x, none⟩ u).cell? ⟨g, y, none⟩ = some (if x = y then u else v) := fun {w x y u v} hc => by
    by_cases e : x = y
    · subst e
      rw [if_pos rfl]
      exact World.cell?_setCell_same _ _ _ hc
    · rw [if_neg e, World.cell?_setCell_other _ _ _ _ (hne e), hc]
  refine ⟨by simpa using hA.1, fun k hk => ?_, fun k => by simp only [World.frozen?_setCell]; exact hA.2.2 k⟩
  rw [hv (hv (hv (hv (hA.2.1 k hk)))), rvp_step hi hk]
  congr 1
  by_cases c1 : k = i * 2
  · subst c1
    rw [if_neg (by omega), if_neg (by omega), if_neg (by omega), if_pos rfl, if_pos rfl]
  · by_cases c2 : k = i * 2 + 1
    · subst c2
      rw [if_neg (by omega), if_neg (by omega), if_pos rfl, if_neg (by omega), if_pos rfl]
    · by_cases c3 : k = (n - 1 - i) * 2
      · subst c3
        rw [if_neg (by omega), if_pos rfl, if_neg c1, if_neg c2, if_pos rfl]
      · by_cases c4 : k = (n - 1 - i) * 2 + 1
        · subst c4
          rw [if_pos rfl, if_neg c1, if_neg c2, if_neg c3, if_pos rfl]
        · rw [if_neg (Ne.symm c4), if_neg (Ne.symm c3), if_neg (Ne.symm c2), if_neg (Ne.symm c1), if_neg c1, if_neg c2, if_neg c3, if_neg c4]
theorem at_ext {w : World} {g n : Nat} {f h : Nat → Int} (hA : Ge.At w g n f) (he : ∀ k, k < n → f k = h k) : Ge.At w g n h := ⟨hA.1, fun i hi => by rw [hA.2.1 i hi, he i hi], hA.2.2⟩
end Go.Proofs.Ytggbdpamjjgakaa.Mo
