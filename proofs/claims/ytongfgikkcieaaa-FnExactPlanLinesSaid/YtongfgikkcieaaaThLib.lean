/- Hides: slices.Chunk of bytes: its iterator; the letters of a plan's picture. -/
import Derived.RangeFuncNested
import Derived.RangeFuncBound
import Derived.RangeFuncCalls
import Derived.RangeFuncLeaves
import Derived.RangeFuncBox
import Derived.Shelf.Abstract
import Derived.Shelf.RegionOpen
import Derived.WalkKit
import Derived.OwnWalkIn
import Derived.TacticsInMore
import Derived.LoopNIn
import Derived.LoopIn
import Derived.Maps.AppendAt
import Derived.Test.YtongfgikkcieaaaTbLib
import Derived.Test.YtongfgikkcieaaaTgLib
namespace Go.Proofs.Ytongfgikkcieaaa.Th
set_option linter.unusedVariables false
open Go.RowKit Go.Shelf Ft Is Ge Qb Hd Ts Tx H2 H5 H6 H7 H9 T1 T2 T3 T4 T5 T6 T7 T8 T9
open Go.Proofs.Ytongfgikkcieaaa.Nm (byt byt_of)
attribute [local go_sem] Oper.semAt_some

/-- Two boxes are kept. -/
def Kb (Bs Bn : Nat) (ts tn : TypeId) (vs vn : Value) (W W' : World) : Prop := (Boxed W Bs ts vs → Boxed W' Bs ts vs) ∧ (Boxed W Bn tn vn → Boxed W' Bn tn vn)
theorem kb_t {Bs Bn : Nat} {ts tn : TypeId} {vs vn : Value} {A B C : World} (h : Kb Bs Bn ts tn vs vn A B) (k : Kb Bs Bn ts tn vs vn B C) : Kb Bs Bn ts tn vs vn A C := ⟨fun x => k.1 (h.1 x), fun x => k.2 (h.2 x)⟩
theorem kb_refl (Bs Bn : Nat) (ts tn : TypeId) (vs vn : Value) (A : World) : Kb Bs Bn ts tn vs vn A A := ⟨id, id⟩
theorem kb_b {Bs Bn : Nat} {ts tn : TypeId} {vs vn : Value} {w : World} (h1 : Bs < w.heap.size) (h2 : Bn < w.heap.size) (W : World) (l : Nat) (o o' : Obj) (hl : w.heap.size ≤ l) (h : W.heap[l]? = some o) (_ : o.isCells = false) (_ : o.isWalk = false) : Kb Bs Bn ts tn vs vn W (W.putObj l o') := by
  have hg := grownBy_putObj' W l o'
  constructor
  · intro x
    exact x.kept hg (by intro e; cases e; have := x.lt; omega)
  · intro x
    exact x.kept hg (by intro e; cases e; have := x.lt; omega)
/-- The k-th chunk. -/
def idx (n k : Nat) : Nat := if k < n then k else 0
def ck (b C n k : Nat) : Value := .slice (some ⟨b, idx n k * C, none⟩) C C
set_option maxRecDepth 100000 in
theorem chunk (A : Option Addr) (N cap C : Nat) (hC : 1 ≤ C ∧ C ≤ 6) (w : World) : Calls Try.prog 88 #[.slice A N cap, .int .i64 (C : Int)] w fun e w' => e = .returned (.func (.func 109) #[] #[.pointer (some ⟨w.heap.size, 0, none⟩), .pointer (some ⟨w.heap.size + 1, 0, none⟩)]) ∧ w' = (w.alloc (.cells #[.slice A N cap] 65)).alloc (.cells #[.int .i64 (C : Int)] 3) := by
  have h1 : ¬ (C : Int) < 1 := by omega
  go_enter Try.func88, Try.ntmps88
  go_wp2_with fail
  go_ret
  exact ⟨rfl, rfl⟩
theorem yield_b {e : Ending} {A B : Prop} (h : (e = .returned (.bool true) ∧ A) ∨ (e = .returned (.bool false) ∧ B)) : ∃ q, e = .returned (.bool q) ∧ ((q = true ∧ A) ∨ (q = false ∧ B)) := by
  rcases h with ⟨h, a⟩ | ⟨h, b⟩
  · exact ⟨true, h, .inl ⟨rfl, a⟩⟩
  · exact ⟨false, h, .inr ⟨rfl, b⟩⟩
theorem j_drew {β : Type} {B : Nat} {J : β → World → Prop} (h : AbidesFrom B J) {x : β} {W : World} (hs : J x W) : J x W.drew := h x W _ none hs ⟨rfl, rfl, rfl, Nat.le_refl _, fun i hi _ => rfl⟩ (fun r e => by cases e)
set_option maxRecDepth 100000 in
set_option maxHeartbeats 400000 in
theorem iterc (m l Bs Bn b N cap C n : Nat) (hN : N = n * C) (hC : 1 ≤ C ∧ C ≤ 6) (hn : n ≤ 6) (hcap : N ≤ cap) (hm : 1 ≤ m) (J Jx : List Nat → World → Prop) (B : Nat) (hJ : AbidesFrom B J)
    (hY : ∀ pre x W, J pre W → pre.length < n → YieldAt Fence.wide (m - 1) Try.prog l #[ck b C n x] W fun e W' =>
      (e = .returned (.bool true) ∧ J (pre ++ [x]) W' ∧ Kb Bs Bn 65 3 (.slice (some ⟨b, 0, none⟩) N cap) (.int .i64 (C : Int)) W W') ∨ (e = .returned (.bool false) ∧ Jx (pre ++ [x]) W'))
    (W : World) (hBs : Boxed W Bs 65 (.slice (some ⟨b, 0, none⟩) N cap)) (hBn : Boxed W Bn 3 (.int .i64 (C : Int))) (h0 : J [] W) :
    CallsIn Fence.wide m Try.prog 109 #[.func (.yield l) #[] #[], .pointer (some ⟨Bs, 0, none⟩), .pointer (some ⟨Bn, 0, none⟩)] W fun e W' => (∃ v, e = .returned v) ∧
      ((∃ ys, ys = List.range n ∧ J ys W') ∨ (∃ pre, (∃ k, k ≤ n ∧ pre = List.range k) ∧ Jx pre W')) := by
  have h36 : n * C ≤ 6 * 6 := Nat.mul_le_mul hn hC.2
  have hmx : Try.prog.follows .mixedOrders = true := by kernel_rfl
  refine callsIn_of_wp Try.func109 rfl trivial ?_ rfl
  simp only [Try.ntmps109, List.size_toArray, List.length_cons, List.length_nil, Nat.reduceAdd, Nat.reduceSub, Array.replicate_succ, Array.replicate_zero, List.push_toArray, List.append_toArray, List.nil_append, List.cons_append]
  gi_wp2
  gi_loopw [4] (fun i wr => ∃ k t : Nat, k ≤ n ∧ t = k * C ∧ i = .int .i64 (t : Int) ∧ J (List.range k) wr ∧ Boxed wr Bs 65 (.slice (some ⟨b, 0, none⟩) N cap) ∧ Boxed wr Bn 3 (.int .i64 (C : Int)))
    (fun i _ => N - (intOf i).toNat)
  case atStart => exact ⟨0, 0, Nat.zero_le _, by simp, rfl, h0, hBs, hBn⟩
  case round =>
    obtain ⟨k, t, hk, ht, rfl, hJs, hbs, hbn⟩ := hrel
    have cs := hbs.cell
    have cn := hbn.cell
    have e0 : (0 : Int) ≤ (t : Int) := Int.natCast_nonneg _
    by_cases hlt : k < n
    · have hkC : (k + 1) * C ≤ n * C := Nat.mul_le_mul_right C hlt
      rw [Nat.add_mul] at hkC
      have htN : t + C ≤ N := by omega
      have e1 : (t : Int) < (N : Int) := by omega
      obtain ⟨fn, tmps, assign, body, hy, hR⟩ := hY _ k wr.drew (j_drew hJ hJs) (by simpa using hlt)
      have hck : ck b C n k = .slice (some ⟨b, t, none⟩) C C := by unfold ck idx; rw [if_pos hlt, ht]
      rw [hck] at hy
      have ht1 : t + C = (k + 1) * C := by rw [ht, Nat.add_mul]; omega
      have hN36 : N ≤ 36 := by omega
      have n1 : ((N - t : Nat) : Int) = (N : Int) - (t : Int) := by omega
      have n2 : ¬ ((N - t : Nat) : Int) < (C : Int) := by omega
      have n3 : ¬ (N : Int) - (t : Int) < (C : Int) := by omega
      have n4 : t ≤ N := by omega
      have n5 : t ≤ cap := by omega
      have n6 : t + C ≤ cap := by omega
      have n7 : (t : Int) ≤ (N : Int) := by omega
      have n8 : (t : Int) + (C : Int) ≤ (cap : Int) := by omega
      have n9 : C ≤ N - t := by omega
      have nm : min (C : Int) ((N : Int) - (t : Int)) = (C : Int) := by omega
      have HT := Lib.hid ht1
      have hk1 : k + 1 ≤ n := by omega
      clear hkC hck ht1 ht hN hk n2 n3 n8 n9
      gi_wp2
      gi_region_o
      clear nm n1 n4 n7
      have HTK : Hid (t + C = (k + 1) * C) := HT
      have HMS : Hid (N - (t + C) < N - t) := Lib.hid (by omega)
      have n8 : t ≤ t + C := by omega
      have n9 : ¬ t + C = t := by omega
      have n10 : ¬ C = 0 := by omega
      gi_wp2_with (fail)
      refine hR.mono ?_
      rintro e W3 h
      obtain ⟨q, rfl, hq⟩ := yield_b h
      rcases hq with ⟨rfl, hJ3, hk3⟩ | ⟨rfl, hJx3⟩
      · have hbs3 := hk3.1 hbs
        have hbn3 := hk3.2 hbn
        have cn3 := hbn3.cell
        have cs3 := hbs3.cell
        clear hy hR h cs cn
        gi_wp2
        go_roundw
        case rel => exact ⟨k + 1, t + C, hk1, HTK.out, by go_num, by rw [List.range_succ]; exact hJ3, hbs3, hbn3⟩
        case measure => first | exact HMS.out | (simp [intOf]; exact HMS.out) | (simp [intOf]; omega)
      · gi_wp2
        refine bodyPost_ret (results_none rfl _ _ _) rfl ?_
        exact ⟨⟨_, rfl⟩, .inr ⟨_, ⟨k + 1, hk1, (List.range_succ).symm⟩, hJx3⟩⟩
    · have hkn : k = n := by omega
      have htn : t = N := by rw [ht, hN, hkn]
      have f1 : ¬ (t : Int) < (N : Int) := by omega
      rw [hkn] at hJs
      clear ht hN htn hkn hlt hk
      gi_wp2
      go_end0
      first | exact ⟨⟨_, rfl⟩, .inl ⟨_, rfl, hJs⟩⟩ | exact ⟨⟨_, rfl⟩, .inl hJs⟩
theorem stopsc (m : Nat) (hm : 1 ≤ m) (Bs Bn b N cap C n : Nat) (hN : N = n * C) (hC : 1 ≤ C ∧ C ≤ 6) (hn : n ≤ 6) (hcap : N ≤ cap) (w : World)
    (hBs : Boxed w Bs 65 (.slice (some ⟨b, 0, none⟩) N cap)) (hBn : Boxed w Bn 3 (.int .i64 (C : Int))) :
    SeqStopsK Fence.wide m Try.prog 109 #[.pointer (some ⟨Bs, 0, none⟩), .pointer (some ⟨Bn, 0, none⟩)] (fun x : Nat => #[ck b C n x]) (Kb Bs Bn 65 3 (.slice (some ⟨b, 0, none⟩) N cap) (.int .i64 (C : Int))) (fun ys => ys = List.range n) (fun pre => ∃ k, k ≤ n ∧ pre = List.range k) n w := fun l J Jx W hW hJ _ hY h0 =>
  iterc m l Bs Bn b N cap C n hN hC hn hcap hm J Jx W.heap.size hJ hY W (Ge.blk_keep hW hBs) (Ge.blk_keep hW hBn) h0
end Go.Proofs.Ytongfgikkcieaaa.Th
