/- OutlineText: the two functions. -/
import Derived.Test.YtggbdpamjjgakaaDoorOxLib
import Derived.Test.YtggbdpamjjgakaaDoorJn
namespace Go.Proofs.YtggbdpamjjgakaaDoor.Oy
open Go.RowKit Go.Proofs.YtggbdpamjjgakaaDoor.Ft Is Ge Qb Ol Ox
open Go.Lib (itoa)
set_option linter.unusedVariables false

theorem join_snoc (l : List (List UInt8)) (hl : l ≠ []) (y sep : List UInt8) : Lib.join (l ++ [y]) sep = Lib.join l sep ++ sep ++ y := by
  cases l with
  | nil => exact absurd rfl hl
  | cons x r => rw [List.cons_append, Lib.join_cons, Lib.join_cons]; simp [Lib.joinTail]
theorem join_ot (f : Nat → Int) : ∀ n, Lib.join ((List.range n).map (ct f)) [32] = ot f n
  | 0 => rfl
  | n + 1 => by
    rw [List.range_succ, List.map_append]
    show Lib.join ((List.range n).map (ct f) ++ [ct f n]) [32] = (if n = 0 then [] else ot f n ++ [32]) ++ ct f n
    by_cases h : n = 0
    · subst h; rw [if_pos rfl]; exact Lib.join_one _ _
    · rw [if_neg h, join_snoc _ (by intro e; have := congrArg List.length e; simp at this; exact h this), join_ot f n]
theorem joined (f : Nat → Int) (n : Nat) (h24 : n ≤ 24) (hR : Rng n f) (bk cap : Nat) (w : World) (hc : ∀ j, j < n → w.cell? ⟨bk, j, none⟩ = some (.string ⟨(ct f j).toArray⟩)) (hbk : bk < w.heap.size) (hcap : n ≤ cap) :
    Calls Tryd.prog 14 #[.slice (some ⟨bk, 0, none⟩) n cap, .string ⟨#[32]⟩] w fun e w' => e = .returned (.string ⟨(ot f n).toArray⟩) ∧ Below w.heap.size w w' := by
  have e1 : ((List.range n).map fun j => (⟨(ct f j).toArray⟩ : ByteArray)).length = n := by simp
  have e2 : ((List.range n).map fun j => (⟨(ct f j).toArray⟩ : ByteArray)).map (·.data.toList) = (List.range n).map (ct f) := by
    rw [List.map_map]; rfl
  have e3 : Lib.join (((List.range n).map fun j => (⟨(ct f j).toArray⟩ : ByteArray)).map (·.data.toList)) [32] = ot f n := by rw [e2, join_ot]
  have hl := ot_len hR n (Nat.le_refl _)
  have h := Tryd.strings_Join bk 0 cap ((List.range n).map fun j => (⟨(ct f j).toArray⟩ : ByteArray)) ⟨#[32]⟩ w (fun j x hx => by
    rw [List.getElem?_map] at hx
    by_cases hj : j < n
    · rw [List.getElem?_range hj] at hx
      obtain rfl := Option.some.inj hx
      rw [Nat.zero_add]; exact hc j hj
    · rw [List.getElem?_eq_none (by simp; omega)] at hx; cases hx) hbk (by rw [e1]; omega) (by rw [e1]; exact hcap) (by
      show (Lib.join _ [32]).length ≤ _
      rw [e3]; omega)
  rw [e1] at h
  refine h.mono fun e w' ⟨he, hb⟩ => ⟨?_, hb⟩
  rw [he]
  show Ending.returned (.string ⟨(Lib.join _ [32]).toArray⟩) = _
  rw [e3]
theorem sep_two (x y : Int) (hx : 0 ≤ x ∧ x ≤ 10000) (hy : 0 ≤ y ∧ y ≤ 10000) (g cp : Nat) (w : World) (ht : Tb.Tab w) (h0 : w.cell? ⟨g, 0, none⟩ = some (.int .i64 x)) (h1 : w.cell? ⟨g, 1, none⟩ = some (.int .i64 y)) :
    Calls Tryd.prog 13 #[.string ⟨#[44]⟩, .slice (some ⟨g, 0, none⟩) 2 cp] w fun e w' => e = .returned (.string ⟨(itoa x ++ [44] ++ itoa y).toArray⟩) ∧ Below w.heap.size w w' := by
  have h := Stx.slash_any [44] rfl g 2 cp (fun j => if j = 0 then x else y) (by omega) (fun k hk => by
    by_cases e : k = 0
    · rw [if_pos e]; omega
    · rw [if_neg e]; omega) w ht (fun k hk => by
    obtain rfl | rfl : k = 0 ∨ k = 1 := by omega
    · exact h0
    · exact h1)
  exact h
theorem info_str : (Tryd.prog.info? 9).map (fun i => (i.zero, i.size, i.bytes)) = some (some (.string ByteArray.empty), 1, 16) := by kernel_rfl
def ups (f : Nat → Int) (k : Nat) : List Value := (List.range k).map fun j => Value.string ⟨(ct f j).toArray⟩
theorem ups_snoc (f : Nat → Int) (k : Nat) : ups f (k + 1) = ups f k ++ [.string ⟨(ct f k).toArray⟩] := by simp [ups, List.range_succ]
theorem ups_get (f : Nat → Int) {k j : Nat} (h : j < k) : (ups f k)[j]? = some (.string ⟨(ct f j).toArray⟩) := by simp [ups, h]
theorem cell_one (w : World) (v : Value) (t : TypeId) : ∀ j u, [v][j]? = some u → (w.alloc (.cells #[v] t)).cell? ⟨w.heap.size, j, none⟩ = some u := fun j u h => by
  rw [cell_of_row _ _ j _ _ (0, 0) (heap_alloc_new _ _)]
  simpa using h

set_option maxRecDepth 100000 in
set_option maxHeartbeats 1000000 in
theorem spec_tx (A : Option Addr) (n c : Nat) (f : Nat → Int) (hn : n ≤ 1048576) (w : World) (hA : Nums w w.heap.size A (n * 2) f) :
    Calls Tryd.prog 5 #[.slice A n c] w fun e w' => e = .returned (.string (oT n f)) ∧ Below w.heap.size w w' := by
  have C := Lib.hid (Oq.sok A n c f hn w hA)
  have HA := Lib.hid hA
  clear hA
  cases r : outB n f
  · have HE : Hid (oT n f = ⟨#[]⟩) := Lib.hid (by unfold oT; rw [r]; rfl)
    rw [r] at C
    go_enter Tryd.func5, Tryd.ntmps5
    go_wp2_with fail
    refine C.out.mono ?_
    rintro e w1 ⟨rfl, b1⟩
    go_wp2_with fail
    go_ret
    exact ⟨Dc.ret_str HE.out.symm, b1⟩
  · have HE : Hid (oT n f = ⟨(ot f n).toArray⟩) := Lib.hid (by unfold oT; rw [r]; rfl)
    have o := tv_iff.1 r
    have T := Lib.hid fun w hA => stext A n c f o.2.1.2 o.1 w hA
    rw [r] at C
    clear r o
    generalize (⟨(ot f n).toArray⟩ : ByteArray) = R at HE T
    go_enter Tryd.func5, Tryd.ntmps5
    go_wp2_with fail
    refine C.out.mono ?_
    rintro e w1 ⟨rfl, b1⟩
    have HB := Lib.hid b1
    have T1 := Lib.hid (T.out w1 ((HA.out.below b1 (Nat.le_refl _)).more b1.size))
    clear b1 T C
    go_wp2_with fail
    refine T1.out.mono ?_
    rintro e w2 ⟨rfl, b2⟩
    have HB2 := Lib.hid (below_then HB.out b2)
    go_wp2_with fail
    go_ret
    exact ⟨Dc.ret_str HE.out.symm, HB2.out⟩

set_option maxRecDepth 100000 in
set_option maxHeartbeats 1000000 in
theorem impl_tx (A : Option Addr) (n c : Nat) (f : Nat → Int) (hn : n ≤ 1048576) (w : World) (hT : Tb.Tab w) (hA : Nums w w.heap.size A (n * 2) f) :
    Calls Tryd.prog 7 #[.slice A n c] w fun e w' => e = .returned (.string (oT n f)) ∧ Below w.heap.size w w' := by
  have C := Lib.hid (Om.iok A n c f hn w hA)
  have HA := Lib.hid hA
  clear hA
  cases r : outB n f
  · have HE : Hid (oT n f = ⟨#[]⟩) := Lib.hid (by unfold oT; rw [r]; rfl)
    rw [r] at C
    go_enter Tryd.func7, Tryd.ntmps7
    go_wp2_with fail
    refine C.out.mono ?_
    rintro e w1 ⟨rfl, b1⟩
    go_wp2_with fail
    go_ret
    exact ⟨Dc.ret_str HE.out.symm, b1⟩
  have HE : Hid (oT n f = ⟨(ot f n).toArray⟩) := Lib.hid (by unfold oT; rw [r]; rfl)
  have o := tv_iff.1 r
  have h3 := o.2.1.1
  have h24 := o.2.1.2
  rw [r] at C
  obtain ⟨i0, hi0, hz0, hz1, hz2⟩ := info_parts info_str
  have HMK : Hid (∀ w : World, (Instr.makeSlice 34 (.int .i64 0) (.int .i64 (n : Int))).run Tryd.prog w = .ok (.slice (some ⟨w.heap.size, 0, none⟩) 0 n) (w.alloc (.cells (Go.madeCells (Value.string ByteArray.empty).cells (n * 1)) 9))) := Lib.hid fun w => by
    have := run_make w _ _ i0 _ Tryd.underlying34 hi0 hz0 .i64 .i64 0 n (by omega) (by omega) (by rw [hz2]; omega) (by omega)
    rw [hz1] at this
    simpa using this
  have HI := Lib.hid (And.intro hi0 (And.intro hz0 (And.intro hz1 hz2)))
  have HT : Hid (∀ w', Below w.heap.size w w' → Tb.Tab w') := Lib.hid fun w' hb => hT.below hb
  have SP : Hid (∀ k, k < n → ∀ (g : Nat) w', Tb.Tab w' → w'.cell? ⟨g, 0, none⟩ = some (.int .i64 (f (k * 2))) → w'.cell? ⟨g, 1, none⟩ = some (.int .i64 (f (k * 2 + 1))) → Calls Tryd.prog 13 #[.string ⟨#[44]⟩, .slice (some ⟨g, 0, none⟩) 2 2] w' fun e w2 => e = .returned (.string ⟨(ct f k).toArray⟩) ∧ Below w'.heap.size w' w2) := Lib.hid fun k hk g w' ht h0 h1 => sep_two _ _ (rng_at o.1 hk).1 (rng_at o.1 hk).2 g 2 w' ht h0 h1
  have JN := Lib.hid fun bk cap w hc hbk hcap => joined f n h24 o.1 bk cap w hc hbk hcap
  have HU : Hid (∀ k, ups f (k + 1) = ups f k ++ [.string ⟨(ct f k).toArray⟩]) := Lib.hid fun k => ups_snoc f k
  have HU0 : Hid (ups f 0 = []) := Lib.hid rfl
  have HUg : Hid (∀ j, j < n → (ups f n)[j]? = some (.string ⟨(ct f j).toArray⟩)) := Lib.hid fun j hj => ups_get f hj
  obtain ⟨b, off, rfl, hb, hc⟩ := HA.out (by omega)
  have HC := Lib.hid hc
  clear r o hT hi0 hz0 hz1 hz2 hc
  generalize ups f = UP at HU HU0 HUg
  generalize (⟨(ot f n).toArray⟩ : ByteArray) = R at HE JN
  obtain ⟨D, hD⟩ : ∃ D : Nat → ByteArray, ∀ k, (⟨(ct f k).toArray⟩ : ByteArray) = D k := ⟨_, fun k => rfl⟩
  simp only [hD] at SP JN HU HUg
  clear hD HA
  go_enter Tryd.func7, Tryd.ntmps7
  go_wp2_with fail
  refine C.out.mono ?_
  rintro e w1 ⟨rfl, b1⟩
  have HB1 := Lib.hid b1
  have hz1 := b1.size
  have hmk := HMK.out w1
  clear b1 C
  go_wp2_with fail
  clear hmk HMK
  have O0 : Hid ((w1.alloc (.cells (Go.madeCells #[Value.string ByteArray.empty] n) 9)).ownsRow w1.heap.size 9 1 (.slice (some ⟨w1.heap.size, 0, none⟩) 0 n) 0 (UP 0)) := Lib.hid (by
    rw [HU0.out]
    exact ⟨rfl, .inr ⟨_, n, _, rfl, Nat.le_refl _, heap_alloc_new _ _, by omega, by unfold maxLen; omega, by rw [size_madeCells]; omega, rfl⟩⟩)
  have B0 := Lib.hid (below_box w1 (.cells (Go.madeCells #[Value.string ByteArray.empty] n) 9))
  go_loopw [3, 5, 14] (fun o _ i wr => ∃ (k : Nat) (u : Value), k ≤ n ∧ u = o ∧ i = .int .i64 (k : Int) ∧ Hid (Below w1.heap.size w1 wr) ∧ Hid (wr.ownsRow w1.heap.size 9 1 u k (UP k))) (fun _ _ i _ => n - (intOf i).toNat)
  case atStart => exact ⟨0, _, Nat.zero_le _, rfl, rfl, B0, O0⟩
  case round =>
    obtain ⟨k, u, hk, rfl, rfl, HB, HO⟩ := hrel
    have f0 : (0 : Int) ≤ (k : Int) := Int.natCast_nonneg _
    have hzr := HB.out.size
    have HBB := Lib.hid (below_then HB1.out HB.out)
    by_cases hlt : k < n
    · have x : ∀ i, i < n * 2 → wr.cell? ⟨b, off + i, none⟩ = some (.int .i64 (f i)) := fun i hi => (HBB.out.cell (p := ⟨b, off + i, none⟩) hb).trans (HC.out i hi)
      obtain ⟨a0, a1⟩ := Oq.nums_two x hlt
      have S := Lib.hid fun g w' ht h0 h1 => SP.out k hlt g w' ht h0 h1
      have HUk := Lib.hid (HU.out k)
      have g1 : (k : Int) < (n : Int) := by omega
      generalize f (k * 2) = px at a0 S
      generalize f (k * 2 + 1) = py at a1 S
      generalize D k = s at S HUk
      obtain ⟨w2, hw2⟩ : ∃ w2, w2 = (wr.alloc (Ot.spC px py 31)).alloc (.cells #[.int .i64 px, .int .i64 py] 2) := ⟨_, rfl⟩
      have k7 := heap_alloc_new wr (Ot.spC px py 31)
      have z0 := cell_of_row _ _ 0 _ _ _ k7
      have z1 := cell_of_row _ _ 1 _ _ _ k7
      have BA := below_then (below_box wr (Ot.spC px py 31)) (below_box _ (.cells #[.int .i64 px, .int .i64 py] 2))
      have hk2 := heap_alloc_new (wr.alloc (Ot.spC px py 31)) (.cells #[.int .i64 px, .int .i64 py] 2)
      rw [show (wr.alloc (Ot.spC px py 31)).heap.size = wr.heap.size + 1 by simp] at hk2
      have y0 := cell_of_row _ _ 0 _ _ _ hk2
      have y1 := cell_of_row _ _ 1 _ _ _ hk2
      have S1 := Lib.hid (S.out _ _ (HT.out _ (below_then HBB.out BA)) (y0.trans rfl) (y1.trans rfl))
      have HBA := Lib.hid (below_then HB.out BA)
      have HBW := Lib.hid (below_then HBB.out BA)
      have HOA := Lib.hid (Ge.row_below HO.out BA)
      clear hw2 x BA hk2 y0 y1 S SP HU HT JN HC HUg
      go_wp2_with fail
      refine S1.out.mono ?_
      rintro e w3 ⟨rfl, b3⟩
      have HB3 := Lib.hid (below_then HBA.out b3)
      have HO3 := Lib.hid (Ge.row_below HOA.out b3)
      have hz3 := HB3.out.size
      clear b3 S1 HBA HBW HOA HO a0 a1 k7 z0 z1
      go_wp2_with (at_builtin; refine wpList_append_own _ rfl _ _ 34 rfl w1.heap.size 9 i0 _ 1 16 Tryd.underlying34 HI.out.1 HI.out.2.1 HI.out.2.2.1 HI.out.2.2.2 rfl (by decide) _ _ _ rfl (HO3.out.alloc _) ⟨w3.heap.size, 0, none⟩ 1 1 [.string s] rfl rfl ?c1 ?c2 ?c3 ?c4 ?c5 ?_)
      case c1 => exact fun j u hu => by rw [Addr.add_lit, Nat.zero_add]; exact cell_one _ _ _ j u hu
      case c2 => simp [Value.oneCell']
      case c3 => unfold maxLen; omega
      case c4 => omega
      case c5 => first | omega | (simp <;> omega)
      intro v' w6 hown2 hgrow _
      have HQ := Lib.hid ((HB3.out.alloc hz3 _).grown hgrow (by simp; omega) fun g hg => (HO3.out.lt g hg).1)
      have HO2 : Hid (w6.ownsRow w1.heap.size 9 1 v' (k + 1) (UP (k + 1))) := Lib.hid (by rw [HUk.out]; exact hown2)
      clear hown2 hgrow
      go_wp2_with fail
      go_roundw
      case rel => exact ⟨k + 1, _, by omega, rfl, by go_num, HQ, HO2⟩
      case measure => simp [intOf]; omega
    · obtain rfl : k = n := by omega
      have g1 : ¬ (k : Int) < (k : Int) := by omega
      obtain ⟨g, cap, cur, rfl, hh, hc1⟩ : ∃ g cap cur, u = .slice (some ⟨g, 0, none⟩) k cap ∧ wr.heap[g]? = some (.cells cur 9 (0, 0)) ∧ k ≤ cap := by
        rcases HO.out.2 with ⟨_, h0⟩ | ⟨g, cap, cur, hv, hbg, hh, hc1, hc2, hcs, hct⟩
        · omega
        · exact ⟨g, cap, cur, hv, hh, hc1⟩
      have J := Lib.hid (JN.out g cap wr (fun j hj => (HO.out.cellAt j (by omega)).trans (HUg.out j hj)) (lt_of_heap hh) hc1)
      clear JN SP HU HT HC HUg HO hh
      go_wp2_with fail
      refine J.out.mono ?_
      rintro e w3 ⟨rfl, b3⟩
      have HB3 := Lib.hid (below_then HBB.out b3)
      clear b3 J
      go_wp2_with fail
      go_ret
      exact ⟨Dc.ret_str HE.out.symm, HB3.out⟩
end Go.Proofs.YtggbdpamjjgakaaDoor.Oy
