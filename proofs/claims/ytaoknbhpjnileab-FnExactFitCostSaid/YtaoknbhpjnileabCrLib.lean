/- Whether a fitting is refused, what it costs, whether a call's arguments are valid: the program's. -/
import Derived.Test.YtaoknbhpjnileabCsLib
import Derived.Test.YtaoknbhpjnileabFsLib
namespace Go.Proofs.Ytaoknbhpjnileab.Co
open Go.RowKit Ft Is Fi La Fa Ge

/-- What the program's gaps answer. -/
def GapsSaid : Prop := ∀ (s : ByteArray) (x a : Nat → Int) (mn mx gi : Int) (A : Option Addr) (c : Nat), Mild x → Mild a → ∀ w : World,
    Calls Try.prog 107 #[ftgV s x mn mx gi A c, ftV a] w fun e w' => e = .returned (.agg #[.int .i64 (gp x a 0), .int .i64 (gp x a 1), .int .i64 (gp x a 2), .int .i64 (gp x a 3)]) ∧ Below w.heap.size w w'
abbrev ftgC (s : ByteArray) (x : Nat → Int) (mn mx gi : Int) (A : Option Addr) (c : Nat) (t : TypeId) : Obj := .cells #[.string s, .int .i64 (x 0), .int .i64 (x 1), .int .i64 (x 2), .int .i64 (x 3), .int .i64 (x 4), .int .i64 mn, .int .i64 mx, .int .i64 gi, .slice A 4 c] t
theorem ten {w : World} {g : Nat} {t : TypeId} {c0 c1 c2 c3 c4 c5 c6 c7 c8 c9 : Value} (h : w.heap[g]? = some (.cells #[c0, c1, c2, c3, c4, c5, c6, c7, c8, c9] t (0, 0))) :
    w.cell? ⟨g, 0, none⟩ = some c0 ∧ w.cell? ⟨g, 1, none⟩ = some c1 ∧ w.cell? ⟨g, 2, none⟩ = some c2 ∧ w.cell? ⟨g, 3, none⟩ = some c3 ∧ w.cell? ⟨g, 4, none⟩ = some c4 ∧ w.cell? ⟨g, 5, none⟩ = some c5 ∧ w.cell? ⟨g, 6, none⟩ = some c6 ∧ w.cell? ⟨g, 7, none⟩ = some c7 ∧ w.cell? ⟨g, 8, none⟩ = some c8 ∧ w.cell? ⟨g, 9, none⟩ = some c9 := by
  refine ⟨?_, ?_, ?_, ?_, ?_, ?_, ?_, ?_, ?_, ?_⟩ <;> simp [World.cell?, h]
theorem two (w : World) (A B : Obj) : ((w.alloc A).alloc B).heap[w.heap.size]? = some A ∧ ((w.alloc A).alloc B).heap[w.heap.size + 1]? = some B := by
  refine ⟨?_, ?_⟩
  · rw [Below.heap_alloc _ _ _ (by simp)]; exact heap_alloc_new _ _
  · have := heap_alloc_new (w.alloc A) B
    simpa using this
/-- The largest of three. -/
def mx3 (u v t : Int) : Int := max (max u v) t
theorem max_any (g cap : Nat) (u v t : Int) (w : World) (h1 : w.cell? ⟨g, 1, none⟩ = some (.int .i64 u)) (h2 : w.cell? ⟨g, 2, none⟩ = some (.int .i64 v)) (h3 : w.cell? ⟨g, 3, none⟩ = some (.int .i64 t)) :
    Calls Try.prog 108 #[.slice (some ⟨g, 1, none⟩) 3 cap] w fun e w' => e = .returned (.int .i64 (mx3 u v t)) ∧ w = w' := by
  have HM : Hid (mx3 u v t = max (max u v) t) := Lib.hid rfl
  generalize mx3 u v t = R at HM ⊢
  go_enter Try.func108, Try.ntmps108
  go_wp2_with fail
  go_loopw [3, 4] (fun m i wr => w = wr ∧ ((i = .int .i64 1 ∧ m = .int .i64 u) ∨ (i = .int .i64 2 ∧ m = .int .i64 (max u v)) ∨ (i = .int .i64 3 ∧ m = .int .i64 (max (max u v) t)))) (fun _ i _ => 4 - (intOf i).toNat)
  case atStart => exact ⟨rfl, .inl ⟨rfl, rfl⟩⟩
  case round =>
    obtain ⟨rfl, h⟩ := hrel
    rcases h with ⟨rfl, rfl⟩ | ⟨rfl, rfl⟩ | ⟨rfl, rfl⟩
    · go_wp2_with fail
      go_roundw
      case rel => exact ⟨by first | rfl | trivial, .inr (.inl ⟨rfl, by simp; split <;> omega⟩)⟩
      case measure => simp [intOf]
    · generalize max u v = q at HM ⊢
      go_wp2_with fail
      go_roundw
      case rel => exact ⟨by first | rfl | trivial, .inr (.inr ⟨rfl, by simp; split <;> omega⟩)⟩
      case measure => simp [intOf]
    · generalize max (max u v) t = q at HM ⊢
      go_wp2_with fail
      go_ret
      exact ⟨by rw [HM.out]; rfl, rfl⟩
theorem rf_iff {mn mx gi : Int} {x a : Nat → Int} : rf mn mx gi x a ↔ (inB (gp x a 0) mn mx = false ∨ gi < mx3 (gp x a 1) (gp x a 2) (gp x a 3)) := by
  show rf mn mx gi x a ↔ (inB (x 0 - a 0) mn mx = false ∨ gi < mx3 (gap (x 1) (a 1)) (gap (x 2) (a 2)) (gap (x 3) (a 3)))
  unfold rf mx3 inB
  rw [decide_eq_false_iff_not]
  omega

set_option maxRecDepth 100000 in
set_option maxHeartbeats 4000000 in
theorem refused_any (HG : GapsSaid) (s : ByteArray) (x a : Nat → Int) (mn mx gi : Int) (A : Option Addr) (c : Nat) (hx : Mild x) (ha : Mild a) (w : World) :
    Calls Try.prog 60 #[ftgV s x mn mx gi A c, ftV a] w fun e w' => e = .returned (.bool (tv (rf mn mx gi x a))) ∧ Below w.heap.size w w' := by
  have G := Lib.hid (fun w => HG s x a mn mx gi A c hx ha w)
  have C1 := Lib.hid (fun w => Fi.within_any (gp x a 0) mn mx w)
  have HR : Hid (tv (rf mn mx gi x a) = true ↔ (inB (gp x a 0) mn mx = false ∨ gi < mx3 (gp x a 1) (gp x a 2) (gp x a 3))) := Lib.hid (tv_iff.trans rf_iff)
  obtain ⟨kx, ka⟩ := two w (ftgC s x mn mx gi A c 88) (ftC a 35)
  have HW : Hid (Below w.heap.size w ((w.alloc (ftgC s x mn mx gi A c 88)).alloc (ftC a 35))) := Lib.hid (((Below.refl _ _).alloc (Nat.le_refl _) _).alloc (by simp) _)
  have KX := Lib.hid kx
  have KA := Lib.hid ka
  clear kx ka hx ha HG
  generalize tv (rf mn mx gi x a) = r at HR ⊢
  generalize gp x a 0 = d0 at G C1 HR
  generalize gp x a 1 = d1 at G HR
  generalize gp x a 2 = d2 at G HR
  generalize gp x a 3 = d3 at G HR
  go_enter Try.func60, Try.ntmps60
  go_wp2_with fail
  refine (G.out _).mono ?_
  rintro e w1 ⟨rfl, b1⟩
  have HB1 := Lib.hid (below_then HW.out b1)
  have KX1 := Lib.hid (Ge.blk_keep b1 KX.out)
  clear b1 KX KA HW G
  go_wp2_with fail
  have HB2 := Lib.hid (below_then HB1.out (below_box w1 (.cells #[.int .i64 d0, .int .i64 d1, .int .i64 d2, .int .i64 d3] 132)))
  have KX2 := Lib.hid (Ge.blk_keep (below_box w1 (.cells #[.int .i64 d0, .int .i64 d1, .int .i64 d2, .int .i64 d3] 132)) KX1.out)
  have KG2 := Lib.hid (heap_alloc_new w1 (.cells #[.int .i64 d0, .int .i64 d1, .int .i64 d2, .int .i64 d3] 132))
  generalize w1.alloc (.cells #[.int .i64 d0, .int .i64 d1, .int .i64 d2, .int .i64 d3] 132) = w2 at HB2 KX2 KG2 ⊢
  generalize w1.heap.size = g at KG2 ⊢
  clear KX1 HB1
  obtain ⟨_, _, _, _, _, _, x6, x7, x8, _⟩ := ten KX2.out
  obtain ⟨y0, y1, y2, y3⟩ := Ge.blk4 KG2.out
  have C2 := Lib.hid (fun q (cap : Nat) => max_any g cap d1 d2 d3 (w2.drewN q) y1 y2 y3)
  have HB3 : Hid (∀ q, Below w.heap.size w (w2.drewN q)) := Lib.hid fun q => ⟨HB2.out.os, HB2.out.tape, HB2.out.output, HB2.out.size, HB2.out.block⟩
  generalize inB d0 mn mx = r1 at C1 HR
  cases r1
  · have HT : Hid (r = true) := Lib.hid (HR.out.2 (.inl rfl))
    go_quiet ((first | (go_at_call 72; refine Calls.quiet_of_same ((C1.out _).mono fun _ _ h => ⟨h.1, h.2.symm⟩)) | (go_at_call 108; refine Calls.quiet_of_same ((C2.out _ _).mono fun _ _ h => ⟨h.1, h.2.symm⟩))))
    go_wp2_with fail
    go_ret
    exact ⟨by rw [HT.out]; rfl, HB3.out _⟩
  · have HT : Hid (r = decide (gi < mx3 d1 d2 d3)) := Lib.hid (by
      by_cases h : gi < mx3 d1 d2 d3
      · rw [HR.out.2 (.inr h), decide_eq_true h]
      · rw [decide_eq_false h]
        cases r
        · rfl
        · exact absurd (HR.out.1 rfl) (by simp [h]))
    generalize mx3 d1 d2 d3 = q3 at C2 HT
    go_quiet ((first | (go_at_call 72; refine Calls.quiet_of_same ((C1.out _).mono fun _ _ h => ⟨h.1, h.2.symm⟩)) | (go_at_call 108; refine Calls.quiet_of_same ((C2.out _ _).mono fun _ _ h => ⟨h.1, h.2.symm⟩))))
    go_wp2_with fail
    go_ret
    exact ⟨by rw [HT.out]; rfl, HB3.out _⟩

theorem nth_df (d : Nat → Int) (k : Nat) (hk : k < 4) : nth (d 0) (d 1) (d 2) (d 3) k = d k := Fa.nth_at d hk
set_option maxRecDepth 100000 in
set_option maxHeartbeats 4000000 in
theorem cost_any (HG : GapsSaid) (s : ByteArray) (x a : Nat → Int) (mn mx gi : Int) (A : Option Addr) (c : Nat) (p : Nat → Int) (hx : Mild x) (ha : Mild a) (h1 : 0 ≤ mn) (h2 : mx ≤ 500) (h3 : gi ≤ 500) (hp : ∀ k, k < 4 → 0 ≤ p k ∧ p k ≤ 100) (hr : ¬ rf mn mx gi x a) (w : World) (hA : Nums w w.heap.size A 4 p) :
    Calls Try.prog 61 #[ftgV s x mn mx gi A c, ftV a] w fun e w' => e = .returned (.int .i64 (ps p (df mn x a) 4)) ∧ Below w.heap.size w w' := by
  have G := Lib.hid (fun w => HG s x a mn mx gi A c hx ha w)
  have HA := Lib.hid hA
  have HDB : Hid (∀ k, k < 4 → 0 ≤ df mn x a k ∧ df mn x a k ≤ 500) := Lib.hid fun k hk => by
    have hr' := Classical.not_not.1 hr
    obtain ⟨q1, q2, q3, q4, q5⟩ := hr'
    have n1 := gap_nn (x 1) (a 1)
    have n2 := gap_nn (x 2) (a 2)
    have n3 := gap_nn (x 3) (a 3)
    obtain rfl | rfl | rfl | rfl : k = 0 ∨ k = 1 ∨ k = 2 ∨ k = 3 := by omega
    · show 0 ≤ x 0 - a 0 - mn ∧ x 0 - a 0 - mn ≤ 500
      omega
    · show 0 ≤ gap (x 1) (a 1) ∧ gap (x 1) (a 1) ≤ 500
      omega
    · show 0 ≤ gap (x 2) (a 2) ∧ gap (x 2) (a 2) ≤ 500
      omega
    · show 0 ≤ gap (x 3) (a 3) ∧ gap (x 3) (a 3) ≤ 500
      omega
  have HPB : Hid (∀ k, k ≤ 4 → 0 ≤ ps p (df mn x a) k ∧ ps p (df mn x a) k ≤ k * (100 * 500)) := Lib.hid (ps_bd (by omega) fun k hk => ⟨(hp k hk).1, (hp k hk).2, (HDB.out k hk).1, (HDB.out k hk).2⟩)
  have D0 : Hid (gp x a 0 - mn = df mn x a 0) := Lib.hid rfl
  have D1 : Hid (gp x a 1 = df mn x a 1) := Lib.hid rfl
  have D2 : Hid (gp x a 2 = df mn x a 2) := Lib.hid rfl
  have D3 : Hid (gp x a 3 = df mn x a 3) := Lib.hid rfl
  have IX : Hid (∀ k, k < 4 → nth (df mn x a 0) (df mn x a 1) (df mn x a 2) (df mn x a 3) k = df mn x a k) := Lib.hid fun k hk => nth_df _ k hk
  have hb0 := HDB.out 0 (by omega)
  rw [D1.out, D2.out, D3.out] at G
  obtain ⟨kx, ka⟩ := two w (ftgC s x mn mx gi A c 88) (ftC a 35)
  have HW : Hid (Below w.heap.size w ((w.alloc (ftgC s x mn mx gi A c 88)).alloc (ftC a 35))) := Lib.hid (((Below.refl _ _).alloc (Nat.le_refl _) _).alloc (by simp) _)
  have KX := Lib.hid kx
  have KA := Lib.hid ka
  clear kx ka hx ha HG hr hA
  generalize df mn x a = d at *
  generalize gp x a 0 = e0 at G D0
  have hwr : IntKind.i64.wrap (e0 - mn) = d 0 := by rw [D0.out]; exact IntWalk.i64_in _ (by omega)
  go_enter Try.func61, Try.ntmps61
  go_wp2_with fail
  refine (G.out _).mono ?_
  rintro e w1 ⟨rfl, b1⟩
  have HB1 := Lib.hid (below_then HW.out b1)
  have KX1 := Lib.hid (Ge.blk_keep b1 KX.out)
  clear b1 KX KA HW G
  obtain ⟨_, _, _, _, _, _, x6, x7, x8, x9⟩ := ten KX1.out
  have hlt1 := Ge.lt_of_heap KX1.out
  go_wp2_with fail
  have HB2 := Lib.hid (below_then HB1.out (below_box w1 (.cells #[.int .i64 (d 0), .int .i64 (d 1), .int .i64 (d 2), .int .i64 (d 3)] 132)))
  have KX2 := Lib.hid (Ge.blk_keep (below_box w1 (.cells #[.int .i64 (d 0), .int .i64 (d 1), .int .i64 (d 2), .int .i64 (d 3)] 132)) KX1.out)
  clear x6 x7 x8 x9
  generalize w1.alloc (.cells #[.int .i64 (d 0), .int .i64 (d 1), .int .i64 (d 2), .int .i64 (d 3)] 132) = w2 at HB2 KX2 ⊢
  have HA2 := Lib.hid ((HA.out.below HB2.out (Nat.le_refl _)).more HB2.out.size)
  obtain ⟨_, _, _, _, _, _, x6, x7, x8, x9⟩ := ten KX2.out
  clear KX1 KX2 HB1 HA hlt1
  go_loopw [6, 7, 8, 20] (fun sm _ _ n wr => ∃ k : Nat, k ≤ 4 ∧ n = .int .i64 k ∧ sm = .int .i64 (ps p d k) ∧ w2 = wr) (fun _ _ _ n _ => 4 - (intOf n).toNat)
  case atStart => exact ⟨0, by omega, rfl, rfl, rfl⟩
  case round =>
    obtain ⟨k, hk, rfl, rfl, rfl⟩ := hrel
    by_cases hlt : k < 4
    · obtain ⟨gb, off, rfl, _, hc⟩ := HA2.out (by omega)
      have y0 : w2.cell? ⟨gb, off + k, none⟩ = some (.int .i64 (p k)) := hc k hlt
      have e0 : (0 : Int) ≤ (k : Int) := Int.natCast_nonneg _
      have e1 : (k : Int) < 4 := by omega
      have hix := fun w => Ft.index_nth (d 0) (d 1) (d 2) (d 3) k hlt w
      simp only [IX.out k hlt] at hix
      obtain ⟨q1, q2⟩ := hp k hlt
      obtain ⟨q3, q4⟩ := HDB.out k hlt
      obtain ⟨q5, q6⟩ := HPB.out k hk
      obtain ⟨v1, v2⟩ := prod_in q1 q2 q3 q4
      have HS : Hid (ps p d (k + 1) = ps p d k + p k * d k) := Lib.hid rfl
      generalize hS1 : ps p d (k + 1) = S1 at HS
      generalize ps p d k = S at HS q5 q6 ⊢
      have hwm : IntKind.i64.wrap (p k * d k) = p k * d k := IntWalk.i64_in _ (by omega)
      have hws : IntKind.i64.wrap (S + p k * d k) = S + p k * d k := IntWalk.i64_in _ (by omega)
      go_wp2_with fail
      go_roundw
      case rel => exact ⟨k + 1, by omega, by go_num, by rw [hS1, HS.out], by first | rfl | trivial⟩
      case measure => simp [intOf]; omega
    · obtain rfl : k = 4 := by omega
      clear HPB
      go_wp2_with fail
      go_ret
      exact ⟨rfl, HB2.out⟩
end Go.Proofs.Ytaoknbhpjnileab.Co
