/- Functions on two feet: four measures as a list and back, the greater of two numbers. -/
import Derived.Test.YtcpclgoclconcabFsLib
import Derived.Deep.AppendLies
import Derived.RegionTactic
import Derived.OwnWalk
namespace Go.Proofs.Ytcpclgoclconcab.Ld
open Go.RowKit Ft Fs

/-- Blocks that are known whole, and what becomes of them. -/
theorem blk_keep {W w1 : World} (hb : Below W.heap.size W w1) {g : Nat} {o : Obj} (h : W.heap[g]? = some o) : w1.heap[g]? = some o := (hb.block g (lt_of_heap h)).trans h
theorem blk4 {w : World} {g : Nat} {t : TypeId} {c0 c1 c2 c3 : Value} (h : w.heap[g]? = some (.cells #[c0, c1, c2, c3] t (0, 0))) :
    w.cell? ⟨g, 0, none⟩ = some c0 ∧ w.cell? ⟨g, 1, none⟩ = some c1 ∧ w.cell? ⟨g, 2, none⟩ = some c2 ∧ w.cell? ⟨g, 3, none⟩ = some c3 :=
  ⟨cell_of_row _ _ _ _ _ _ h, cell_of_row _ _ _ _ _ _ h, cell_of_row _ _ _ _ _ _ h, cell_of_row _ _ _ _ _ _ h⟩
theorem blk_free {w : World} {g : Nat} {t : TypeId} {cs : Array Value} (h : w.heap[g]? = some (.cells cs t (0, 0))) (i : Nat) : w.frozen? ⟨g, i, none⟩ = false := by simp [World.frozen?, h]
theorem three (w : World) (A B Z : Obj) : (((w.alloc A).alloc B).alloc Z).heap[w.heap.size]? = some A ∧ (((w.alloc A).alloc B).alloc Z).heap[w.heap.size + 1]? = some B ∧ (((w.alloc A).alloc B).alloc Z).heap[w.heap.size + 2]? = some Z := by
  refine ⟨?_, ?_, ?_⟩
  · rw [Below.heap_alloc _ _ _ (by simp; omega), Below.heap_alloc _ _ _ (by simp)]; exact heap_alloc_new _ _
  · rw [Below.heap_alloc _ _ _ (by simp)]
    have := heap_alloc_new (w.alloc A) B
    simpa using this
  · have := heap_alloc_new ((w.alloc A).alloc B) Z
    simpa using this
theorem below3 (w : World) (A B Z : Obj) : Below w.heap.size w (((w.alloc A).alloc B).alloc Z) := (((Below.refl _ _).alloc (Nat.le_refl _) _).alloc (by simp) _).alloc (by simp; omega) _

/-- A new list of four numbers. -/
def FourAt (f : Nat → Int) (w : World) (e : Ending) (w' : World) : Prop :=
  ∃ g, e = .returned (.slice (some ⟨g, 0, none⟩) 4 4) ∧ w.heap.size ≤ g ∧ g < w'.heap.size ∧ Below w.heap.size w w' ∧ Hid (∀ j, j < 4 → w'.cell? ⟨g, j, none⟩ = some (.int .i64 (f j)))
theorem four_any (f : Nat → Int) (w : World) : Calls Try.prog 45 #[.agg #[.int .i64 (f 0), .int .i64 (f 1), .int .i64 (f 2), .int .i64 (f 3)]] w (FourAt f w) := by
  have HF : Hid (∀ j, j < 4 → (#[Value.int .i64 (f 0), .int .i64 (f 1), .int .i64 (f 2), .int .i64 (f 3)] : Array Value)[j]? = some (.int .i64 (f j))) := Lib.hid fun j hj => by
    obtain rfl | rfl | rfl | rfl : j = 0 ∨ j = 1 ∨ j = 2 ∨ j = 3 := by omega
    all_goals rfl
  have HP : Hid (∀ (g : Nat) (w' : World), w.heap.size ≤ g → g < w'.heap.size → Below w.heap.size w w' → (∀ j, j < 4 → w'.cell? ⟨g, j, none⟩ = some (.int .i64 (f j))) → FourAt f w (.returned (.slice (some ⟨g, 0, none⟩) 4 4)) w') := Lib.hid fun g w' h1 h2 h3 h4 => ⟨g, rfl, h1, h2, h3, Lib.hid h4⟩
  generalize FourAt f w = Q at HP ⊢
  generalize f 0 = a, f 1 = b, f 2 = c, f 3 = d at HF ⊢
  go_enter Try.func45, Try.ntmps45
  go_wp2_with fail
  exact HP.out _ _ (by simp) (by simp) (by repeat (first | exact Below.refl _ _ | exact below_box _ _ | refine Below.alloc ?_ (by simp <;> omega) _)) (fun j hj => by
    have h := (cell_of_row ((w.alloc (.cells #[.int .i64 a, .int .i64 b, .int .i64 c, .int .i64 d] 25)).alloc (.cells #[.int .i64 a, .int .i64 b, .int .i64 c, .int .i64 d] 2)) _ j _ _ (0, 0) (heap_alloc_new _ _)).trans (HF.out j hj)
    rw [show (w.alloc (.cells #[.int .i64 a, .int .i64 b, .int .i64 c, .int .i64 d] 25)).heap.size = w.heap.size + 1 by simp] at h
    exact h)
theorem max_any (a b : Int) (w : World) : Calls Try.prog 46 #[.int .i64 a, .int .i64 b] w fun e w' => e = .returned (.int .i64 (max a b)) ∧ w = w' := by
  by_cases h : b < a
  · have hm := Lib.hid (show max a b = a by omega)
    go_enter Try.func46, Try.ntmps46
    go_wp2
    go_ret
    exact ⟨by rw [hm.out]; rfl, rfl⟩
  · have hm := Lib.hid (show max a b = b by omega)
    go_enter Try.func46, Try.ntmps46
    go_wp2
    go_ret
    exact ⟨by rw [hm.out]; rfl, rfl⟩
theorem of_any (a b c d : Int) (g cap : Nat) (w : World) (h0 : w.cell? ⟨g, 0, none⟩ = some (.int .i64 a)) (h1 : w.cell? ⟨g, 1, none⟩ = some (.int .i64 b)) (h2 : w.cell? ⟨g, 2, none⟩ = some (.int .i64 c)) (h3 : w.cell? ⟨g, 3, none⟩ = some (.int .i64 d)) :
    Calls Try.prog 47 #[.slice (some ⟨g, 0, none⟩) 4 cap] w fun e w' => e = .returned (.agg #[.int .i64 a, .int .i64 b, .int .i64 c, .int .i64 d]) ∧ Below w.heap.size w w' := by
  have hlt := World.block_lt_of_cell? w _ h0
  have e0 := World.new_ne w _ h0
  go_enter Try.func47, Try.ntmps47
  go_wp2_with fail
  go_region
  all_goals
    go_wp2
    exact bodyPost_ret (v := .agg #[.int .i64 a, .int .i64 b, .int .i64 c, .int .i64 d]) (by simp [results, Try.results47, go_sem]) rfl ⟨rfl, by repeat (first | exact Below.refl _ _ | exact below_box _ _ | refine Below.drew ?_ | refine Below.setCell ?_ (by simp <;> omega) _ | refine Below.alloc ?_ (by simp <;> omega) _)⟩
theorem back_any (l b i h : Int) (w : World) : Calls Try.prog 50 #[.agg #[.int .i64 l, .int .i64 b, .int .i64 i, .int .i64 h]] w fun e w' => e = .returned (.agg #[.int .i64 l, .int .i64 b, .int .i64 i, .int .i64 h]) ∧ Below w.heap.size w w' := by
  go_enter Try.func50, Try.ntmps50
  go_wp2
  exact bodyPost_ret (v := .agg #[.int .i64 l, .int .i64 b, .int .i64 i, .int .i64 h]) (by simp [results, Try.results50, go_sem]) rfl ⟨rfl, by repeat (first | exact Below.refl _ _ | exact below_box _ _ | refine Below.setCell ?_ (by simp <;> omega) _ | refine Below.alloc ?_ (by simp <;> omega) _)⟩

theorem info_int : (Try.prog.info? 2).map (fun i => (i.zero, i.size, i.bytes)) = some (some (.int .i64 0), 1, 8) := by kernel_rfl
/-- The first k of some numbers, as cells. -/
def upto (f : Nat → Int) (k : Nat) : List Value := (List.range k).map fun j => Value.int .i64 (f j)
theorem upto_snoc (f : Nat → Int) (k : Nat) : upto f (k + 1) = upto f k ++ [.int .i64 (f k)] := by simp [upto, List.range_succ]
theorem upto_get (f : Nat → Int) {k j : Nat} (h : j < k) : (upto f k)[j]? = some (.int .i64 (f j)) := by simp [upto, h]
theorem own_ne {w : World} {base : Nat} {e : TypeId} {size n : Nat} {v : Value} {xs : List Value} (h : w.ownsRow base e size v n xs) {b : Nat} (hb : b < base) : v.ownBlock ≠ some b := fun e => by have := (h.lt b e).1; omega

set_option maxRecDepth 100000 in
/-- The valid case of the spec's LargerFoot: the loop that appends the greater ones. -/
theorem spec_larger_yes (a b : Nat → Int) (ha : ftB (a 0) (a 1) (a 2) (a 3) = true) (hb : ftB (b 0) (b 1) (b 2) (b 3) = true) (w : World) :
    Calls Try.prog 25 #[.agg #[.int .i64 (a 0), .int .i64 (a 1), .int .i64 (a 2), .int .i64 (a 3)], .agg #[.int .i64 (b 0), .int .i64 (b 1), .int .i64 (b 2), .int .i64 (b 3)]] w
      fun e w' => e = .returned (.tuple #[.agg #[.int .i64 (max (a 0) (b 0)), .int .i64 (max (a 1) (b 1)), .int .i64 (max (a 2) (b 2)), .int .i64 (max (a 3) (b 3))], .int .i64 0]) ∧ Below w.heap.size w w' := by
  obtain ⟨i0, hi0, hz0, hz1, hz2⟩ := info_parts info_int
  have HI := Lib.hid (And.intro hi0 (And.intro hz0 (And.intro hz1 hz2)))
  clear hi0 hz0 hz1 hz2
  have CA := Lib.hid (fun w => (foot_any (a 0) (a 1) (a 2) (a 3) w).mono fun _ _ h => by rw [ha] at h; exact h)
  have CB := Lib.hid (fun w => (foot_any (b 0) (b 1) (b 2) (b 3) w).mono fun _ _ h => by rw [hb] at h; exact h)
  clear ha hb
  go_enter Try.func25, Try.ntmps25
  go_wp2_with fail
  refine (CA.out _).mono ?_
  rintro e w1 ⟨rfl, b1⟩
  obtain ⟨ka, kb, kz⟩ := three w (.cells #[.int .i64 (a 0), .int .i64 (a 1), .int .i64 (a 2), .int .i64 (a 3)] 25) (.cells #[.int .i64 (b 0), .int .i64 (b 1), .int .i64 (b 2), .int .i64 (b 3)] 25) (.cells #[.int .i64 0, .int .i64 0, .int .i64 0, .int .i64 0] 25)
  have HB1 := Lib.hid (below_then (below3 w _ _ _) b1)
  have KA1 := Lib.hid (blk_keep b1 ka)
  have KB1 := Lib.hid (blk_keep b1 kb)
  have KZ1 := Lib.hid (blk_keep b1 kz)
  clear b1 ka kb kz
  obtain ⟨y0, y1, y2, y3⟩ := blk4 KB1.out
  go_wp2_with fail
  refine (CB.out _).mono ?_
  rintro e w2 ⟨rfl, b2⟩
  have HB2 := Lib.hid (below_then HB1.out b2)
  have KA2 := Lib.hid (blk_keep b2 KA1.out)
  have KB2 := Lib.hid (blk_keep b2 KB1.out)
  have KZ2 := Lib.hid (blk_keep b2 KZ1.out)
  clear b2 y0 y1 y2 y3 HB1 KA1 KB1 KZ1
  obtain ⟨x0, x1, x2, x3⟩ := blk4 KA2.out
  go_wp2_with fail
  refine (four_any a _).mono ?_
  rintro e w3 ⟨ga, rfl, hga, hla, b3, hca⟩
  have HB3 := Lib.hid (below_then HB2.out b3)
  have KB3 := Lib.hid (blk_keep b3 KB2.out)
  have KZ3 := Lib.hid (blk_keep b3 KZ2.out)
  clear x0 x1 x2 x3 b3 KA2 KB2 KZ2
  obtain ⟨y0, y1, y2, y3⟩ := blk4 KB3.out
  go_wp2_with fail
  refine (four_any b _).mono ?_
  rintro e w4 ⟨gb, rfl, hgb, hlb, b4, hcb⟩
  have HB4 := Lib.hid (below_then HB3.out b4)
  have KZ4 := Lib.hid (blk_keep b4 KZ3.out)
  have HA4 : Hid (∀ j, j < 4 → w4.cell? ⟨ga, j, none⟩ = some (.int .i64 (a j))) := Lib.hid fun j hj => (b4.cell (p := ⟨ga, j, none⟩) hla).trans (hca.out j hj)
  have hla4 : ga < w4.heap.size := by have := b4.size; omega
  have hz4 : w.heap.size ≤ w4.heap.size := HB4.out.size
  clear y0 y1 y2 y3 b4 KB3 KZ3 hca hga hgb hla
  go_wp2_with fail
  have HM : Hid (∀ k, upto (fun j => max (a j) (b j)) (k + 1) = upto (fun j => max (a j) (b j)) k ++ [.int .i64 (max (a k) (b k))]) := Lib.hid fun k => upto_snoc _ k
  have HM0 : Hid (upto (fun j => max (a j) (b j)) 0 = []) := Lib.hid rfl
  have HM4 : Hid (∀ j, j < 4 → (upto (fun j => max (a j) (b j)) 4)[j]? = some (.int .i64 (max (a j) (b j)))) := Lib.hid fun j hj => upto_get _ hj
  generalize upto (fun j => max (a j) (b j)) = M at HM HM0 HM4
  go_loopw [8, 9] (fun o n wr => ∃ (k : Nat) (v : Value), k ≤ 4 ∧ v = o ∧ n = .int .i64 k ∧ wr.ownsRow w4.heap.size 2 1 v k (M k) ∧ Below w4.heap.size w4 wr) (fun _ n _ => 4 - (intOf n).toNat)
  case atStart => exact ⟨0, _, by omega, rfl, rfl, HM0.out ▸ World.ownsRow_made w4 #[] 0 (Nat.le_refl _) (by simp [maxLen]) rfl, below_box _ _⟩
  case round =>
    obtain ⟨k, v, hk, rfl, rfl, hown, hbel⟩ := hrel
    have HB := Lib.hid hbel
    have hsz := hbel.size
    by_cases hlt : k < 4
    · have x0 : wr.cell? ⟨ga, k, none⟩ = some (.int .i64 (a k)) := (hbel.cell (p := ⟨ga, k, none⟩) hla4).trans (HA4.out k hlt)
      have y0 : wr.cell? ⟨gb, k, none⟩ = some (.int .i64 (b k)) := (hbel.cell (p := ⟨gb, k, none⟩) hlb).trans (hcb.out k hlt)
      have na := own_ne hown hla4
      have nb := own_ne hown hlb
      have HO := Lib.hid hown
      clear hbel hown
      have e0 : (0 : Int) ≤ (k : Int) := Int.natCast_nonneg _
      have e1 : (k : Int) < 4 := by omega
      go_wp2_with fail
      go_region_held3 (fun w' => w'.cell? ⟨ga, k, none⟩ = some (.int .i64 (a k)) ∧ w'.cell? ⟨gb, k, none⟩ = some (.int .i64 (b k)))
        (first
          | go_keep
          | (go_split_ands
             refine ⟨?_, ?_⟩
             · (rw [hgrow.cell_far _ (by simp; omega) (Ne.symm na)]; assumption)
             · (rw [hgrow.cell_far _ (by simp; omega) (Ne.symm nb)]; assumption)))
        (first
          | (go_at_call 46; refine (max_any _ _ _).mono ?_; rintro e w' ⟨rfl, rfl⟩)
          | (refine step_append_lies _ (by rfl) _ _ _ (by rfl) w4.heap.size 2 i0 _ 1 8 Try.underlying33 HI.out.1 HI.out.2.1 HI.out.2.2.1 HI.out.2.2.2 rfl (by omega) v k (M k) (by rfl) ((HO.out.alloc _).drew)
              ⟨wr.heap.size, 0, none⟩ 1 1 [.int .i64 (max (a k) (b k))] (by rfl) (by rfl) (World.news_of_block (cs := #[.int .i64 (max (a k) (b k))]) (t := 2) (fr := (0, 0)) (heap_alloc_new wr _)) (by simp [Value.oneCell'])
              (by omega) (by unfold maxLen; omega) (by omega) (by simp; omega) (wr.heap.size + 1) (by simp) ?_; intro gg cap w5 hown1 hgrow hat hlt5))
      all_goals
        have HQ : Hid (Below w4.heap.size w4 w5) := Lib.hid ((((HB.out.alloc hsz _).drew)).grown hgrow (by simp; omega) fun g hg => (HO.out.lt g hg).1)
        have hown2 : w5.ownsRow w4.heap.size 2 1 (.slice (some ⟨gg, 0, none⟩) (k + 1) cap) (k + 1) (M (k + 1)) := by rw [HM.out k]; exact hown1
        have HO2 := Lib.hid hown2
        clear hgrow hat hlt5 hown1 hown2 x0 y0 na nb
        go_wp2_with fail
        go_roundw
        case rel => exact ⟨k + 1, _, by omega, rfl, by go_num, HO2.out, HQ.out⟩
        case measure => simp [intOf]; omega
    · obtain rfl : k = 4 := by omega
      obtain ⟨g, cap, rfl, hge, hlg⟩ := hown.form (by omega)
      have hc : ∀ j, j < 4 → wr.cell? ⟨g, j, none⟩ = some (.int .i64 (max (a j) (b j))) := fun j hj => (hown.cellAt j (by omega)).trans (HM4.out j hj)
      have c0 := hc 0 (by omega)
      have c1 := hc 1 (by omega)
      have c2 := hc 2 (by omega)
      have c3 := hc 3 (by omega)
      have C := Lib.hid (of_any _ _ _ _ g cap wr c0 c1 c2 c3)
      have KZ5 := Lib.hid (blk_keep hbel KZ4.out)
      have HB5 := Lib.hid (below_then HB4.out hbel)
      clear hc c0 c1 c2 c3 hown hbel HB
      go_wp2_with fail
      refine C.out.mono ?_
      rintro e w6 ⟨rfl, b6⟩
      have KZ6 := Lib.hid (blk_keep b6 KZ5.out)
      have HB6 := Lib.hid (below_then HB5.out b6)
      obtain ⟨z0, z1, z2, z3⟩ := blk4 KZ6.out
      have hfr := blk_free KZ6.out
      clear b6
      go_wp2_with fail
      exact bodyPost_ret (v := .tuple #[.agg #[.int .i64 (max (a 0) (b 0)), .int .i64 (max (a 1) (b 1)), .int .i64 (max (a 2) (b 2)), .int .i64 (max (a 3) (b 3))], .int .i64 0]) (by simp [results, Try.results25, go_sem, z0, z1, z2, z3]) rfl
        ⟨rfl, (((HB6.out.setCell (by simp; omega) _).setCell (by simp; omega) _).setCell (by simp; omega) _).setCell (by simp; omega) _⟩

/-- The two other ways of the spec's LargerFoot. -/
theorem spec_larger_no (a b : Nat → Int) (hab : ftB (a 0) (a 1) (a 2) (a 3) = false ∨ ftB (b 0) (b 1) (b 2) (b 3) = false) (w : World) :
    Calls Try.prog 25 #[.agg #[.int .i64 (a 0), .int .i64 (a 1), .int .i64 (a 2), .int .i64 (a 3)], .agg #[.int .i64 (b 0), .int .i64 (b 1), .int .i64 (b 2), .int .i64 (b 3)]] w
      fun e w' => e = .returned (.tuple #[.agg #[.int .i64 0, .int .i64 0, .int .i64 0, .int .i64 0], .int .i64 1]) ∧ Below w.heap.size w w' := by
  obtain ⟨ka, kb, kz⟩ := three w (.cells #[.int .i64 (a 0), .int .i64 (a 1), .int .i64 (a 2), .int .i64 (a 3)] 25) (.cells #[.int .i64 (b 0), .int .i64 (b 1), .int .i64 (b 2), .int .i64 (b 3)] 25) (.cells #[.int .i64 0, .int .i64 0, .int .i64 0, .int .i64 0] 25)
  have KB := Lib.hid kb
  have KZ := Lib.hid kz
  clear ka kb kz
  cases ha : ftB (a 0) (a 1) (a 2) (a 3)
  · have CA := Lib.hid (fun w => (foot_any (a 0) (a 1) (a 2) (a 3) w).mono fun _ _ h => by rw [ha] at h; exact h)
    clear ha hab
    go_enter Try.func25, Try.ntmps25
    go_wp2_with fail
    refine (CA.out _).mono ?_
    rintro e w1 ⟨rfl, b1⟩
    have HB1 := Lib.hid (below_then (below3 w _ _ _) b1)
    have KZ1 := Lib.hid (blk_keep b1 KZ.out)
    have hsz := HB1.out.size
    clear b1
    obtain ⟨z0, z1, z2, z3⟩ := blk4 KZ1.out
    have hfr := blk_free KZ1.out
    go_wp2_with fail
    exact bodyPost_ret (v := .tuple #[.agg #[.int .i64 0, .int .i64 0, .int .i64 0, .int .i64 0], .int .i64 1]) (by simp [results, Try.results25, go_sem, z0, z1, z2, z3]) rfl
      ⟨rfl, (((HB1.out.setCell (by simp; omega) _).setCell (by simp; omega) _).setCell (by simp; omega) _).setCell (by simp; omega) _⟩
  · have hb : ftB (b 0) (b 1) (b 2) (b 3) = false := by rw [ha] at hab; simpa using hab
    have CA := Lib.hid (fun w => (foot_any (a 0) (a 1) (a 2) (a 3) w).mono fun _ _ h => by rw [ha] at h; exact h)
    have CB := Lib.hid (fun w => (foot_any (b 0) (b 1) (b 2) (b 3) w).mono fun _ _ h => by rw [hb] at h; exact h)
    clear ha hb hab
    go_enter Try.func25, Try.ntmps25
    go_wp2_with fail
    refine (CA.out _).mono ?_
    rintro e w1 ⟨rfl, b1⟩
    have HB1 := Lib.hid (below_then (below3 w _ _ _) b1)
    have KB1 := Lib.hid (blk_keep b1 KB.out)
    have KZ1 := Lib.hid (blk_keep b1 KZ.out)
    clear b1
    obtain ⟨y0, y1, y2, y3⟩ := blk4 KB1.out
    go_wp2_with fail
    refine (CB.out _).mono ?_
    rintro e w2 ⟨rfl, b2⟩
    have HB2 := Lib.hid (below_then HB1.out b2)
    have KZ2 := Lib.hid (blk_keep b2 KZ1.out)
    have hsz := HB2.out.size
    clear b2 y0 y1 y2 y3
    obtain ⟨z0, z1, z2, z3⟩ := blk4 KZ2.out
    have hfr := blk_free KZ2.out
    go_wp2_with fail
    exact bodyPost_ret (v := .tuple #[.agg #[.int .i64 0, .int .i64 0, .int .i64 0, .int .i64 0], .int .i64 1]) (by simp [results, Try.results25, go_sem, z0, z1, z2, z3]) rfl
      ⟨rfl, (((HB2.out.setCell (by simp; omega) _).setCell (by simp; omega) _).setCell (by simp; omega) _).setCell (by simp; omega) _⟩
end Go.Proofs.Ytcpclgoclconcab.Ld
