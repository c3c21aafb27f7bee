/- Hides: the program's PlanWorth. -/
import Derived.Test.YtongfgikkcieaaaT9Lib
namespace Go.Proofs.Ytongfgikkcieaaa.Ta
set_option linter.unusedVariables false
open Go.RowKit Ft Is Ge Qb Hd Ts H2 H5 H6 T1 T2 T3 T4 T5 T6 T7 T8 T9
open Go.Proofs.Ytongfgikkcieaaa.Nm (byt byt_of)

set_option maxRecDepth 100000 in
set_option maxHeartbeats 1000000 in
theorem impl_pw (A : Option Addr) (n c : Nat) (f : Nat → ByteArray) (G : Option Addr) (k gc : Nat) (g : Nat → Int) (P : Option Addr) (m pc : Nat) (p : Nat → Int) (hn : n ≤ 1048576) (hs : ∀ i, i < n → (f i).size ≤ 1048576) (hk : k ≤ 1048576) (hm : m ≤ 1048576) (hcap : n ≤ c) (w : World) (h : H6.Ask w A n f G k g P m p) :
    Calls Try.prog 40 #[.slice A n c, .slice G k gc, .slice P m pc] w (PwAt n f k g m p w) := by
  have C := Lib.hid (isound A n c f G k gc g P m pc p hn hs hk hm hcap w h)
  have HBX := Lib.hid (fun w n C s a b c d P u fa => below_box w (lyC n C s a b c d P u fa))
  have V0 : Hid (∀ cd, gdC n f k g m p = cd → ¬ cd = 0 → ∀ W, Below w.heap.size w W → PwAt n f k g m p w (.returned (.tuple #[.int .i64 0, .int .i64 cd])) W) := Lib.hid fun cd e h W hb => ⟨by unfold pwV; rw [if_neg (by rw [e]; exact h), e], hb⟩
  have V1 : Hid (gdC n f k g m p = 0 → ∀ W, Below w.heap.size w W → PwAt n f k g m p w (.returned (.tuple #[.int .i64 (woI g p m), .int .i64 0])) W) := Lib.hid fun h W hb => ⟨by unfold pwV; rw [if_pos h, h], hb⟩
  have HH := Lib.hid h
  clear h
  generalize PwAt n f k g m p w = Q at V0 V1 ⊢
  go_enter Try.func40, Try.ntmps40
  go_wp2_with fail
  refine C.out.mono ?_
  intro e w1 hl
  rcases hl with ⟨h2, rfl, b1⟩ | ⟨h1, P', rfl, b1, _, _⟩
  · have HF := Lib.hid (V0.out _ rfl h2 _ (below_then b1 (HBX.out w1 0 0 ⟨#[]⟩ 0 0 0 0 (.slice none 0 0) 0 0)))
    have hcd : (gdC n f k g m p != 0) = true := by simpa using h2
    generalize gdC n f k g m p = cd at HF hcd
    clear C V0 V1 HBX b1 h2
    go_wp2_with fail
    exact HF.out
  have HF := Lib.hid (V1.out h1)
  obtain ⟨hpl, hfl⟩ := gd_ok h1
  obtain ⟨_, hCu, hFi, rfl⟩ := plc_ok hpl
  have hk4 := hCu.2
  have W0 : Hid (woI g p 0 = 0) := Lib.hid rfl
  have WY : Hid (∀ j, j < m → ¬ p j = -1 → woI g p (j + 1) = woI g p j + g (j * 4 + 3)) := Lib.hid fun j hj h => by
    have := Ba.in_of (hFi j hj)
    show woI g p j + (if 0 ≤ p j then g (j * 4 + 3) else 0) = _
    rw [if_pos (by omega)]
  have WN : Hid (∀ j, p j = -1 → woI g p (j + 1) = woI g p j) := Lib.hid fun j h => by
    show woI g p j + (if 0 ≤ p j then g (j * 4 + 3) else 0) = _
    rw [if_neg (by omega)]; omega
  have WI := Lib.hid (fun j (hj : j ≤ m) => wo_in (p := p) hCu hj)
  have GI := Lib.hid (fun j (hj : j < m) => (cu_in (hCu.1 j hj)).2.2.2)
  have HB := Lib.hid (below_then b1 (HBX.out w1 n (f 0).size (jnS f n) (gdN n (f 0).size (qf f) 0) (gdN n (f 0).size (qf f) 1) (gdN n (f 0).size (qf f) 2) (gdN n (f 0).size (qf f) 3) (.slice (some ⟨P', 0, none⟩) m m) (usN (f 0).size g p m) (-1)))
  generalize gdN n (f 0).size (qf f) 0 = g0 at HB ⊢
  generalize gdN n (f 0).size (qf f) 1 = g1 at HB ⊢
  generalize gdN n (f 0).size (qf f) 2 = g2 at HB ⊢
  generalize gdN n (f 0).size (qf f) 3 = g3 at HB ⊢
  generalize jnS f n = S at HB ⊢
  generalize usN (f 0).size g p m = u at HB ⊢
  generalize (f 0).size = D at HB ⊢
  generalize woI g p = T at W0 WY WN WI HF
  clear b1 V0 V1 HBX C h1 hpl hfl hCu hFi
  go_upto_region 2 with fail
  generalize hw2 : w1.alloc _ = w2 at HB ⊢
  clear hw2
  go_wp2_with fail
  go_loopw [10, 25] (fun s x wr => ∃ j : Nat, j ≤ m ∧ s = .int .i64 (T j) ∧ x = .int .i64 (j : Int) ∧ w2 = wr) (fun _ x _ => m - (intOf x).toNat)
  case atStart => exact ⟨0, Nat.zero_le _, by rw [W0.out], rfl, rfl⟩
  case round =>
    obtain ⟨j, hj, rfl, rfl, rfl⟩ := hrel
    have e0 : (0 : Int) ≤ (j : Int) := Int.natCast_nonneg _
    by_cases hlt : j < m
    · have e1 : (j : Int) < (m : Int) := by omega
      have HHr := HH.out.below HB.out
      obtain ⟨b, off, rfl, hb, hc⟩ := HHr.plan (by omega)
      obtain ⟨b2, o2, rfl, hb2, hc2⟩ := HHr.cuts (by omega)
      have x0 := hc j hlt
      obtain ⟨y0, y1, y2, y3⟩ := Cut.cells_at hc2 hlt
      have w1 := WI.out j hj
      have w2 := GI.out j hlt
      have HY := Lib.hid (WY.out j hlt)
      have HN := Lib.hid (WN.out j)
      have hj1 : j + 1 ≤ m := by omega
      clear hc hc2 y0 y1 y2 HHr hb hb2
      generalize g (j * 4 + 3) = gj at y3 w2 HY
      generalize hS1 : T (j + 1) = s1 at HY HN
      generalize T j = s0 at w1 HY HN ⊢
      generalize p j = pj at x0 HY HN
      by_cases hp : pj = -1
      · have HE := Lib.hid (HN.out hp)
        subst hp
        clear HY HN
        go_wp2_with fail
        go_roundw
        case rel => exact ⟨j + 1, hj1, by rw [hS1, HE.out], by go_num, by first | rfl | trivial⟩
        case measure => simp [intOf]; omega
      · have HE := Lib.hid (HY.out hp)
        have hne : (pj != -1) = true := by simpa using hp
        clear HY HN
        go_wp2_with fail
        go_roundw
        case rel => exact ⟨j + 1, hj1, by rw [hS1, HE.out], by go_num, by first | rfl | trivial⟩
        case measure => simp [intOf]; omega
    · obtain rfl : j = m := by omega
      have e1 : ¬ (j : Int) < (j : Int) := by omega
      have HF2 := Lib.hid (HF.out _ HB.out)
      clear HF
      go_wp2_with fail
      exact HF2.out
end Go.Proofs.Ytongfgikkcieaaa.Ta
