/- The corners after a motion, laid against both axes: the program's function. -/
import Derived.Test.YtggbdpamjjgakaaMpLib
import Derived.Shelf.Abstract
namespace Go.Proofs.Ytggbdpamjjgakaa.Mq
set_option linter.unusedVariables false
open Go.RowKit Ft Is Ge Qb Ol Ot Opl Oq Oi Oj Ok Om Bo Bp Bw Mo Mp

/-- Laid as far as k. -/
def lyp (n k : Nat) (f : Nat → Int) (i : Nat) : Int := if i < k * 2 then ly n f i else f i
theorem lyp_0 (n : Nat) (f : Nat → Int) (i : Nat) : lyp n 0 f i = f i := by unfold lyp; rw [if_neg (by omega)]
theorem lyp_end {n : Nat} (f : Nat → Int) {i : Nat} (hi : i < n * 2) : lyp n n f i = ly n f i := by unfold lyp; rw [if_pos hi]
theorem lyp_at {w : World} {g n k : Nat} {f : Nat → Int} (hk : k < n) (hA : Ge.At w g (n * 2) (lyp n k f)) {a b : Int} (ea : a = ly n f (k * 2)) (eb : b = ly n f (k * 2 + 1)) :
    Ge.At ((w.setCell ⟨g, k * 2, none⟩ (.int .i64 a)).setCell ⟨g, k * 2 + 1, none⟩ (.int .i64 b)) g (n * 2) (lyp n (k + 1) f) := by
  subst ea eb
  have hne : ∀ {x y : Nat}, x ≠ y → (⟨g, x, none⟩ : Addr) ≠ ⟨g, y, none⟩ := fun hxy q => hxy (Addr.mk.inj q).2.1
  have hv : ∀ {w : World} {x y : Nat} {u : Value} {v : Value}, w.cell? ⟨g, y, none⟩ = some v → (w.setCell ⟨g, x, none⟩ u).cell? ⟨g, y, none⟩ = some (if x = y then u else v) := fun {w x y u v} hc => by
    by_cases e : x = y
    · subst e
      rw [if_pos rfl]
      exact World.cell?_setCell_same _ _ _ hc
    · rw [if_neg e, World.cell?_setCell_other _ _ _ _ (hne e), hc]
  refine ⟨by simpa using hA.1, fun i hi => ?_, fun i => by simp only [World.frozen?_setCell]; exact hA.2.2 i⟩
  rw [hv (hv (hA.2.1 i hi))]
  congr 1
  by_cases c1 : k * 2 + 1 = i
  · subst c1
    rw [if_pos rfl]
    unfold lyp
    rw [if_pos (by omega)]
  · rw [if_neg c1]
    by_cases c2 : k * 2 = i
    · subst c2
      rw [if_pos rfl]
      unfold lyp
      rw [if_pos (by omega)]
    · rw [if_neg c2]
      unfold lyp
      by_cases c3 : i < k * 2
      · rw [if_pos c3, if_pos (by omega)]
      · rw [if_neg c3, if_neg (by omega)]
/-- What is handed back: a new row of spots in a block of its own. -/
def AfAt (n : Nat) (d : Nat → Int) (w : World) (e : Ending) (w' : World) : Prop := ∃ g cap, e = .returned (.slice (some ⟨g, 0, none⟩) n cap) ∧ (n ≤ cap ∧ cap ≤ maxLen) ∧ w.heap.size ≤ g ∧ Hid (Ge.At w' g (n * 2) d) ∧ Below w.heap.size w w'
set_option maxRecDepth 100000 in
set_option maxHeartbeats 8000000 in
theorem iafter (T : TypeId) (v : Value) (F : FuncId) (G : Pt → Pt) (hme : ∀ w, (method 239 T v "loop.example/g01043/impl.of").run Try.prog w = .ok (F, v) w)
    (eF : ∀ args w, (callFunc F args).run Try.prog w = .ok (.enter F args) w)
    (A : Option Addr) (n c : Nat) (f : Nat → Int) (h3 : 3 ≤ n) (h24 : n ≤ 24) (hR : Rng n f)
    (hG : ∀ i, i < n → ∀ w, Calls Try.prog F #[v, spV (pt f i).1 (pt f i).2] w fun e w' => e = .returned (spV (G (pt f i)).1 (G (pt f i)).2) ∧ Below w.heap.size w w')
    (hGb : ∀ i, i < n → (-10000 ≤ (G (pt f i)).1 ∧ (G (pt f i)).1 ≤ 10000) ∧ (-10000 ≤ (G (pt f i)).2 ∧ (G (pt f i)).2 ≤ 10000))
    (w : World) (hA : Nums w w.heap.size A (n * 2) f) :
    Calls Try.prog 69 #[.iface T v, .slice A n c] w (AfAt n (ly n (mp G f)) w) := by
  obtain ⟨i0, hi0, hz0, hz1, hz2⟩ := info_parts info_sp
  have HMK : Hid (∀ w : World, (Instr.makeSlice 25 (.int .i64 0) (.int .i64 (n : Int))).run Try.prog w = .ok (.slice (some ⟨w.heap.size, 0, none⟩) 0 n) (w.alloc (.cells (Go.madeCells (Value.agg #[.int .i64 0, .int .i64 0]).cells (n * 2)) 38))) := Lib.hid fun w => by
    have := run_make w _ _ i0 _ Try.underlying25 hi0 hz0 .i64 .i64 0 n (by omega) (by omega) (by rw [hz2]; omega) (by omega)
    rw [hz1] at this
    simpa using this
  have HI := Lib.hid (And.intro hi0 (And.intro hz0 (And.intro hz1 hz2)))
  obtain ⟨b, off, rfl, hb, hc⟩ := hA (by omega)
  have HC := Lib.hid hc
  have HGs := Lib.hid hG
  have HGb := Lib.hid hGb
  have HBd := Lib.hid (mp_bd hGb)
  have HU : Hid (∀ k, upto (mp G f) ((k + 1) * 2) = upto (mp G f) (k * 2) ++ [.int .i64 (G (pt f k)).1, .int .i64 (G (pt f k)).2]) := Lib.hid fun k => by
    obtain ⟨e0, e1⟩ := mp_at G f k
    rw [upto_two, e0, e1]
  have HU0 : Hid (upto (mp G f) (0 * 2) = []) := Lib.hid rfl
  have HUg : Hid (∀ j, j < n * 2 → (upto (mp G f) (n * 2))[j]? = some (.int .i64 (mp G f j))) := Lib.hid fun j hj => upto_get _ hj
  generalize upto (mp G f) = UP at HU HU0 HUg
  clear hA hc hi0 hz0 hz1 hz2 hG hGb hR
  have hmk := HMK.out w
  go_enter Try.func69, Try.ntmps69
  go_wp2_with fail
  clear hmk
  have B0 := Lib.hid (below_box w (.cells (Go.madeCells (Value.agg #[.int .i64 0, .int .i64 0]).cells (n * 2)) 38))
  have O0 : Hid ((w.alloc (.cells (Go.madeCells (Value.agg #[.int .i64 0, .int .i64 0]).cells (n * 2)) 38)).ownsRow w.heap.size 38 2 (.slice (some ⟨w.heap.size, 0, none⟩) 0 n) 0 (UP (0 * 2))) := Lib.hid (by
    rw [HU0.out]
    exact ⟨rfl, .inr ⟨_, n, _, rfl, Nat.le_refl _, heap_alloc_new _ _, by omega, by unfold maxLen; omega, size_madeCells _ _, rfl⟩⟩)
  go_loopw [5, 7, 16] (fun o _ i wr => ∃ (k : Nat) (u : Value), k ≤ n ∧ u = o ∧ i = .int .i64 (k : Int) ∧ Hid (Below w.heap.size w wr) ∧ Hid (wr.ownsRow w.heap.size 38 2 u k (UP (k * 2)))) (fun _ _ i _ => n - (intOf i).toNat)
  case atStart => exact ⟨0, _, Nat.zero_le _, rfl, rfl, B0, O0⟩
  case round =>
    obtain ⟨k, u, hk, rfl, rfl, HB, HO⟩ := hrel
    have f0 : (0 : Int) ≤ (k : Int) := Int.natCast_nonneg _
    have hsz := HB.out.size
    have f24 : (n : Int) ≤ 24 := by omega
    by_cases hlt : k < n
    · have x : ∀ i, i < n * 2 → wr.cell? ⟨b, off + i, none⟩ = some (.int .i64 (f i)) := fun i hi => (HB.out.cell (p := ⟨b, off + i, none⟩) hb).trans (HC.out i hi)
      obtain ⟨a0, a1⟩ := nums_two x hlt
      have C : Hid (∀ w, Calls Try.prog F #[v, spV (f (k * 2)) (f (k * 2 + 1))] w fun e w' => e = .returned (spV (G (pt f k)).1 (G (pt f k)).2) ∧ Below w.heap.size w w') := Lib.hid (HGs.out k hlt)
      have HUk := Lib.hid (HU.out k)
      have g1 : (k : Int) < (n : Int) := by omega
      generalize G (pt f k) = r at C HUk
      obtain ⟨r0, r1⟩ := r
      simp only [spV] at C HUk
      generalize f (k * 2) = px at a0 C
      generalize f (k * 2 + 1) = py at a1 C
      have k7 := heap_alloc_new wr (spC px py 38)
      have HB7 := Lib.hid (below_then HB.out (below_box wr (spC px py 38)))
      have HO7 := Lib.hid (Ge.row_below HO.out (below_box wr (spC px py 38)))
      clear x hk
      go_wp2_with fail
      refine (C.out _).mono ?_
      rintro e w6 ⟨rfl, b6⟩
      have HB6 := Lib.hid (below_then HB7.out b6)
      have HO6 := Lib.hid (Ge.row_below HO7.out b6)
      have hz6 := HB6.out.size
      clear b6 a0 a1 k7 HO7 HB7 HO
      go_wp2_with (at_builtin; refine wpList_append_own _ rfl _ _ 25 rfl w.heap.size 38 i0 _ 2 16 Try.underlying25 HI.out.1 HI.out.2.1 HI.out.2.2.1 HI.out.2.2.2 rfl (by decide) _ _ _ rfl (HO6.out.alloc _) ⟨w6.heap.size, 0, none⟩ 1 1 [.int .i64 r0, .int .i64 r1] rfl rfl ?c1 ?c2 ?c3 ?c4 ?c5 ?_)
      case c1 => exact cells_new2 _ _ _ _
      case c2 => simp [Value.oneCell']
      case c3 => unfold maxLen; omega
      case c4 => omega
      case c5 => first | omega | (simp <;> omega)
      intro v' w2 hown2 hgrow _
      have HQ := Lib.hid ((HB6.out.alloc hz6 _).grown hgrow (by simp; omega) fun g hg => (HO6.out.lt g hg).1)
      have HO2 : Hid (w2.ownsRow w.heap.size 38 2 v' (k + 1) (UP ((k + 1) * 2))) := Lib.hid (by rw [HUk.out]; exact hown2)
      clear hown2 hgrow
      go_wp2_with fail
      go_roundw
      case rel => exact ⟨k + 1, _, by omega, rfl, by go_num, HQ, HO2⟩
      case measure => simp [intOf]; omega
    · obtain rfl : n = k := by omega
      have g1 : ¬ (n : Int) < (n : Int) := by omega
      obtain ⟨w1, hw1⟩ : ∃ w1 : World, w1 = wr := ⟨_, rfl⟩
      subst hw1
      obtain ⟨g, cap, cur, rfl, hbg, hh, hc1, hc2, hcs, hct⟩ : ∃ g cap cur, u = .slice (some ⟨g, 0, none⟩) n cap ∧ w.heap.size ≤ g ∧ w1.heap[g]? = some (.cells cur 38 (0, 0)) ∧ n ≤ cap ∧ cap ≤ maxLen ∧ cur.size = cap * 2 ∧ cur.toList.take (n * 2) = UP (n * 2) := by
        rcases HO.out.2 with ⟨_, h0⟩ | ⟨g, cap, cur, hv, hbg, hh, hc1, hc2, hcs, hct⟩
        · omega
        · exact ⟨g, cap, cur, hv, hbg, hh, hc1, hc2, hcs, hct⟩
      have HAt : Hid (Ge.At w1 g (n * 2) (mp G f)) := Lib.hid ⟨lt_of_heap hh, fun i hi => (HO.out.cellAt i (by omega)).trans (HUg.out i hi), fun i => blk_free hh i⟩
      have HNu : Hid (Nums w1 w1.heap.size (some ⟨g, 0, none⟩) (n * 2) (mp G f)) := Lib.hid (Ot.at_nums HAt.out)
      have CA := Lib.hid (iall 64 mnP ileast (Go.Proofs.enters_of Try.func64 (by kernel_rfl) rfl) (some ⟨g, 0, none⟩) n cap (mp G f) (by omega) (by omega) hc1 hc2 w1 HNu.out)
      have HLy : Hid (∀ k, ly n (mp G f) (k * 2) = mp G f (k * 2) - (fo mnP (mp G f) (n - 1)).1 ∧ ly n (mp G f) (k * 2 + 1) = mp G f (k * 2 + 1) - (fo mnP (mp G f) (n - 1)).2) := Lib.hid fun k => ly_at n (mp G f) k
      have hob := fo_bd HBd.out (n - 1) (by omega)
      have HL0 : Hid (∀ w, Ge.At w g (n * 2) (mp G f) → Ge.At w g (n * 2) (lyp n 0 (mp G f))) := Lib.hid fun w h => at_ext h fun k _ => (lyp_0 n _ k).symm
      have HLn : Hid (∀ w, Ge.At w g (n * 2) (lyp n n (mp G f)) → Ge.At w g (n * 2) (ly n (mp G f))) := Lib.hid fun w h => at_ext h fun k hk => lyp_end _ hk
      have HL1 : Hid (∀ k w, k < n → Ge.At w g (n * 2) (lyp n k (mp G f)) → ∀ a b, a = ly n (mp G f) (k * 2) → b = ly n (mp G f) (k * 2 + 1) → Ge.At ((w.setCell ⟨g, k * 2, none⟩ (.int .i64 a)).setCell ⟨g, k * 2 + 1, none⟩ (.int .i64 b)) g (n * 2) (lyp n (k + 1) (mp G f))) := Lib.hid fun k w hk h a b ea eb => lyp_at hk h ea eb
      have HV : Hid (∀ k, k < n → lyp n k (mp G f) (k * 2) = mp G f (k * 2) ∧ lyp n k (mp G f) (k * 2 + 1) = mp G f (k * 2 + 1)) := Lib.hid fun k hk => by unfold lyp; rw [if_neg (by omega), if_neg (by omega)]; exact ⟨rfl, rfl⟩
      have hgl := lt_of_heap hh
      obtain ⟨P, hP⟩ : ∃ P : Nat → Nat → Int, ∀ k, lyp n k (mp G f) = P k := ⟨fun k => lyp n k (mp G f), fun k => rfl⟩
      simp only [hP] at HL0 HLn HL1 HV
      clear hP
      generalize ly n (mp G f) = LY at *
      generalize fo mnP (mp G f) (n - 1) = o at *
      obtain ⟨o0, o1⟩ := o
      simp only [spV] at CA HLy hob
      generalize mp G f = M at *
      clear HO hk hlt HU HU0 HUg HMK HGs HGb hh hcs hct
      have hcap : (n : Int) ≤ (cap : Int) := by omega
      go_wp2_with fail
      refine CA.out.mono ?_
      rintro e w2 ⟨rfl, b2⟩
      have HB2 := Lib.hid (below_then HB.out b2)
      have HA2 := Lib.hid (HAt.out.below b2)
      have hz2 := b2.size
      clear b2 CA HNu HAt HB
      have k8 := Lib.hid (heap_alloc_new w2 (spC o0 o1 38))
      have HB8 := Lib.hid (below_then HB2.out (below_box w2 (spC o0 o1 38)))
      have HA8 := Lib.hid (HA2.out.below (below_box w2 (spC o0 o1 38)))
      clear HA2 HB2
      go_upto_region 9 with fail
      generalize hgo : w2.heap.size = go at k8 ⊢
      generalize hw3 : w2.alloc _ = w3 at k8 HB8 HA8 ⊢
      have hgg : g ≠ go := by omega
      clear hw3
      have HP0 := Lib.hid (HL0.out _ HA8.out)
      go_loopw [9, 10, 31] (fun _ _ i wr => ∃ k : Nat, k ≤ n ∧ i = .int .i64 (k : Int) ∧ Hid (Below w.heap.size w wr) ∧ Hid (wr.heap[go]? = some (spC o0 o1 38)) ∧ Hid (Ge.At wr g (n * 2) (P k))) (fun _ _ i _ => n - (intOf i).toNat)
      case atStart => exact ⟨0, Nat.zero_le _, rfl, HB8, k8, HP0⟩
      case round =>
        obtain ⟨k, hk, rfl, HB, HK, HA⟩ := hrel
        have f0 : (0 : Int) ≤ (k : Int) := Int.natCast_nonneg _
        by_cases hlt : k < n
        · have a0 := HA.out.2.1 (k * 2) (by omega)
          have a1 := HA.out.2.1 (k * 2 + 1) (by omega)
          obtain ⟨v0, v1⟩ := HV.out k hlt
          rw [v0] at a0
          rw [v1] at a1
          have q0 := HBd.out (k * 2) (by omega)
          have q1 := HBd.out (k * 2 + 1) (by omega)
          obtain ⟨l0, l1⟩ := HLy.out k
          have HL1k := Lib.hid (HL1.out k)
          have g1 : (k : Int) < (n : Int) := by omega
          rw [l0, l1] at HL1k
          generalize M (k * 2) = px at a0 q0 HL1k
          generalize M (k * 2 + 1) = py at a1 q1 HL1k
          have C := Lib.hid fun w => iminus px py o0 o1 (wr_in (by omega)) (wr_in (by omega)) w
          simp only [spV] at C
          have k10 := Lib.hid (heap_alloc_new wr (spC px py 38))
          have HB10 := Lib.hid (below_then HB.out (below_box wr (spC px py 38)))
          have HA10 := Lib.hid (HA.out.below (below_box wr (spC px py 38)))
          have HK10 := Lib.hid (blk_old (spC px py 38) HK.out)
          clear v0 v1 l0 l1 q0 q1 hk
          go_upto_region 11 with fail
          generalize hs5 : wr.heap.size = s5 at k10 ⊢
          generalize hw5 : wr.alloc _ = w5 at k10 HB10 HA10 HK10 ⊢
          clear hw5 a0 a1 HA HB HK
          obtain ⟨x0, x1⟩ := blk2 k10.out
          obtain ⟨y0, y1⟩ := blk2 HK10.out
          go_wp2_with fail
          refine (C.out _).mono ?_
          rintro e w6 ⟨rfl, b6⟩
          have HB6 := Lib.hid (below_then HB10.out b6)
          have HA6 := Lib.hid (HA10.out.below b6)
          have HK6 := Lib.hid (blk_keep b6 HK10.out)
          clear b6 x0 x1 y0 y1 k10 HB10 HA10 HK10 C
          have a0 := HA6.out.2.1 (k * 2) (by omega)
          have a1 := HA6.out.2.1 (k * 2 + 1) (by omega)
          have fz := HA6.out.2.2
          have hl := HA6.out.1
          generalize P k (k * 2) = ov0 at a0
          generalize P k (k * 2 + 1) = ov1 at a1
          have HAf := Lib.hid (HL1k.out w6 hlt HA6.out _ _ rfl rfl)
          have HBf := Lib.hid ((HB6.out.setCell (p := ⟨g, k * 2, none⟩) hbg (.int .i64 (px - o0))).setCell (p := ⟨g, k * 2 + 1, none⟩) hbg (.int .i64 (py - o1)))
          have HKf : Hid (((w6.setCell ⟨g, k * 2, none⟩ (.int .i64 (px - o0))).setCell ⟨g, k * 2 + 1, none⟩ (.int .i64 (py - o1))).heap[go]? = some (spC o0 o1 38)) := Lib.hid ((Below.heap_setCell _ _ _ _ (Ne.symm hgg)).trans ((Below.heap_setCell _ _ _ _ (Ne.symm hgg)).trans HK6.out))
          clear HA6 HB6 HK6 HL1k
          go_wp2_with fail
          go_roundw
          case rel => exact ⟨k + 1, by omega, by go_num, HBf, HKf, HAf⟩
          case measure => simp [intOf]; omega
        · obtain rfl : n = k := by omega
          have g1 : ¬ (n : Int) < (n : Int) := by omega
          have HF := Lib.hid (HLn.out _ HA.out)
          clear hk hlt HA HK HP0
          go_wp2_with fail
          go_ret
          exact ⟨g, cap, rfl, ⟨hc1, hc2⟩, hbg, HF, HB.out⟩
end Go.Proofs.Ytggbdpamjjgakaa.Mq
