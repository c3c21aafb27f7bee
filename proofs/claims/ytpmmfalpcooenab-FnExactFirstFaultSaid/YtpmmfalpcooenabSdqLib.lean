/- SeamDifferences: spec and program; what toldOf hands on. -/
import Derived.Test.YtpmmfalpcooenabVqLib
import Derived.Test.YtpmmfalpcooenabBwLib
import Derived.StillTailTactics
namespace Go.Proofs.Ytpmmfalpcooenab.Sdq
set_option linter.unusedVariables false
open Go.RowKit Go.Maps Ft Is Ge Qb Pt Pv Za Mm Zb Zc Zd Vq

def ab (x : Int) : Int := if x < 0 then -x else x
theorem s_size (x : Int) (h : -100000 ≤ x ∧ x ≤ 100000) (w : World) : Calls Try.prog 112 #[.int .i64 x] w fun e w' => e = .returned (.int .i64 (ab x)) ∧ w = w' := by
  unfold ab
  by_cases q : x < 0
  · rw [if_pos q]
    go_enter Try.func112, Try.ntmps112
    go_wp2
    go_ret
    exact ⟨rfl, rfl⟩
  · rw [if_neg q]
    go_enter Try.func112, Try.ntmps112
    go_wp2
    go_ret
    exact ⟨rfl, rfl⟩
theorem i_dist (a b : Int) (ha : 0 ≤ a ∧ a ≤ 10000) (hb : 0 ≤ b ∧ b ≤ 10000) (w : World) : Calls Try.prog 142 #[.int .i64 a, .int .i64 b] w fun e w' => e = .returned (.int .i64 (ab (a - b))) ∧ w' = w := by
  unfold ab
  by_cases h : a - b < 0
  · rw [if_pos h]
    have n1 : ¬ (b < a) := by omega
    have n2 : a ≤ b := by omega
    have n3 : a < b := by omega
    go_enter Try.func142, Try.ntmps142
    go_wp2
    go_ret
    exact ⟨ret_int (by omega), rfl⟩
  · rw [if_neg h]
    have n1 : ¬ (a < b) := by omega
    have n2 : b ≤ a := by omega
    by_cases h2 : b < a
    · go_enter Try.func142, Try.ntmps142
      go_wp2
      go_ret
      exact ⟨ret_int (by omega), rfl⟩
    · have e : a = b := by omega
      subst e
      go_enter Try.func142, Try.ntmps142
      go_wp2
      go_ret
      exact ⟨ret_int (by omega), rfl⟩
/-- A new list of numbers, and a code. -/
def PairAt (n : Nat) (d : Nat → Int) (c : Int) (w : World) (e : Ending) (w' : World) : Prop := ∃ A cap, e = .returned (.tuple #[.slice A n cap, .int .i64 c]) ∧ Hid (Own w' w.heap.size A n d) ∧ Below w.heap.size w w'
/-- A new list of numbers. -/
def OneAt (n : Nat) (d : Nat → Int) (w : World) (e : Ending) (w' : World) : Prop := ∃ A cap, e = .returned (.slice A n cap) ∧ Hid (Own w' w.heap.size A n d) ∧ Below w.heap.size w w'
theorem own_of_row {n : Nat} {f : Nat → Int} {w' : World} {B : Nat} {v : Value} (h : w'.ownsRow B 2 1 v n (upto f n)) : ∃ A cap, v = .slice A n cap ∧ Own w' B A n f := by
  rcases h.2 with ⟨rfl, rfl⟩ | ⟨g, cap, cur, rfl, hbg, hh, _⟩
  · exact ⟨none, 0, rfl, fun h => absurd h (by omega)⟩
  · exact ⟨_, cap, rfl, fun _ => ⟨g, 0, rfl, hbg, lt_of_heap hh, fun i hi => by rw [Nat.zero_add]; exact (h.cellAt i (by omega)).trans (upto_get f hi), fun i => blk_free hh i⟩⟩
theorem one_of_row {n : Nat} {f : Nat → Int} {w w0 w' : World} {v : Value} (h : w'.ownsRow w0.heap.size 2 1 v n (upto f n)) (h0 : Below w.heap.size w w0) (hb : Below w0.heap.size w0 w') : OneAt n f w (.returned v) w' := by
  obtain ⟨A, cap, rfl, ho⟩ := own_of_row h
  exact ⟨A, cap, rfl, Lib.hid (Bw.own_later ho h0.size), below_then h0 hb⟩
theorem pair_of_row {n : Nat} {f : Nat → Int} {w w0 w' : World} {v : Value} (h : w'.ownsRow w0.heap.size 2 1 v n (upto f n)) (h0 : Below w.heap.size w w0) (hb : Below w0.heap.size w0 w') : PairAt n f 0 w (.returned (.tuple #[v, .int .i64 0])) w' := by
  obtain ⟨A, cap, rfl, ho⟩ := own_of_row h
  exact ⟨A, cap, rfl, Lib.hid (Bw.own_later ho h0.size), below_then h0 hb⟩
theorem pair_no {w w' : World} {c : Int} (hb : Below w.heap.size w w') (d : Nat → Int) : PairAt 0 d c w (.returned (.tuple #[.slice none 0 0, .int .i64 c])) w' := ⟨none, 0, rfl, Lib.hid fun h => absurd h (by omega), hb⟩
/-- The code of a pattern. -/
noncomputable def vC (n : Nat) (N : Nat → ByteArray) (ms : Nat → Nat) (ds : Nat → Nat → Int) (k : Nat) (S : Nat → Int) (o : Int) : Int := if tv (PatP n N ms ds k S o) = true then 0 else 1
noncomputable def vM (n : Nat) (N : Nat → ByteArray) (ms : Nat → Nat) (ds : Nat → Nat → Int) (k : Nat) (S : Nat → Int) (o : Int) (m : Nat) : Nat := if tv (PatP n N ms ds k S o) = true then m else 0
theorem vm_le {n : Nat} {N : Nat → ByteArray} {ms : Nat → Nat} {ds : Nat → Nat → Int} {k : Nat} {S : Nat → Int} {o : Int} {m B : Nat} (h : m ≤ B) : vM n N ms ds k S o m ≤ B := by
  unfold vM; split <;> omega
/-- What all of a valid pattern's parts are. -/
theorem pat_in {n : Nat} {N : Nat → ByteArray} {ms : Nat → Nat} {ds : Nat → Nat → Int} {k : Nat} {S : Nat → Int} {o : Int} (h : PatP n N ms ds k S o) : n ≤ 10 ∧ (∀ i, i < n → 3 ≤ ms i ∧ ms i ≤ 8) ∧ (∀ i j, i < n → j < ms i → 1 ≤ ds i j ∧ ds i j ≤ 10000) ∧ ∀ j, j < k → ((endA S j).1 < n ∧ (endA S j).2 < ms (endA S j).1) ∧ ((endB S j).1 < n ∧ (endB S j).2 < ms (endB S j).1) := by
  refine ⟨?_, fun i hi => (h.1 i hi).2.1, fun i j hi hj => ?_, fun j hj => ?_⟩
  · have := h.2.1.1; unfold inB at this; simp at this; omega
  · have := (h.1 i hi).2.2 j hj; unfold inB at this; simpa using this
  · have sd := sd_iff.1 (h.2.2 j hj).1
    unfold endA endB; simp; omega
/-- The differences of seams. -/
def dfD (ds : Nat → Nat → Int) (S : Nat → Int) (j : Nat) : Int := ab (ds (endA S j).1 (endA S j).2 - ds (endB S j).1 (endB S j).2)
set_option maxRecDepth 100000 in
set_option maxHeartbeats 2000000 in
theorem s_diff (g : Nat) (A : Option Addr) (n c : Nat) (N : Nat → ByteArray) (ms : Nat → Nat) (ds : Nat → Nat → Int) (Y : Option Addr) (k sc : Nat) (S : Nat → Int) (o : Int) (hz : Small n N ms k) (hP : PatP n N ms ds k S o) (j : Nat) (hj : j < k) (w : World) (h : Boxed w g A n c N ms ds Y k sc S o) :
    Calls Try.prog 132 #[.pointer (some ⟨g, 0, none⟩), seV (S (j * 4)) (S (j * 4 + 1)) (S (j * 4 + 2)) (S (j * 4 + 3))] w fun e' w' => e' = .returned (.int .i64 (dfD ds S j)) ∧ Below w.heap.size w w' := by
  obtain ⟨p1, p2, p3, p4⟩ := pat_in hP
  obtain ⟨⟨a1, a2⟩, b1, b2⟩ := p4 j hj
  obtain ⟨i1, i2, i3, i4⟩ := endA_int (hP.2.2 j hj).1
  have d1 := p3 _ _ a1 a2
  have d2 := p3 _ _ b1 b2
  have m1 := (p2 _ a1).2
  have m2 := (p2 _ b1).2
  have HD : Hid (dfD ds S j = ab (ds (endA S j).1 (endA S j).2 - ds (endB S j).1 (endB S j).2)) := Lib.hid rfl
  obtain ⟨As, cs, hR⟩ := h.pat.pcs
  obtain ⟨bp, op, rfl, hbp, hc⟩ := hR.out (by omega)
  obtain ⟨ba, oa, eA, hba, hca⟩ := hR.inn (endA S j).1 a1 (by omega)
  obtain ⟨bb, ob, eB, hbb, hcb⟩ := hR.inn (endB S j).1 b1 (by omega)
  have u1 := (hc (endA S j).1 a1).2
  have u2 := (hc (endB S j).1 b1).2
  have v1 := hca _ a2
  have v2 := hcb _ b2
  obtain ⟨x0, _, _⟩ := blk3 h.blk
  rw [eA] at u1
  rw [eB] at u2
  rw [← i1, ← i2, ← i3, ← i4]
  have BB := Lib.hid (below_box w (.cells #[.int .i64 ((endA S j).1 : Int), .int .i64 ((endA S j).2 : Int), .int .i64 ((endB S j).1 : Int), .int .i64 ((endB S j).2 : Int)] 162))
  have KB := Lib.hid (heap_alloc_new w (.cells #[.int .i64 ((endA S j).1 : Int), .int .i64 ((endA S j).2 : Int), .int .i64 ((endB S j).1 : Int), .int .i64 ((endB S j).2 : Int)] 162))
  clear h hR hc hca hcb i1 i2 i3 i4 p1 p2 p3 p4 hP
  generalize dfD ds S j = D at HD ⊢
  generalize ms (endA S j).1 = ma at a2 u1 m1
  generalize ms (endB S j).1 = mb at b2 u2 m2
  generalize cs (endA S j).1 = ca at u1
  generalize cs (endB S j).1 = cb at u2
  generalize ds (endA S j).1 (endA S j).2 = da at d1 v1 HD
  generalize ds (endB S j).1 (endB S j).2 = db at d2 v2 HD
  generalize (endA S j).1 = q1 at *
  generalize (endA S j).2 = q2 at *
  generalize (endB S j).1 = q3 at *
  generalize (endB S j).2 = q4 at *
  have Z := Lib.hid (fun w => s_size (da - db) (by omega) w)
  obtain ⟨d1a, d1b⟩ := d1
  obtain ⟨d2a, d2b⟩ := d2
  have n1 : (0 : Int) ≤ (q1 : Int) := Int.natCast_nonneg _
  have n2 : (0 : Int) ≤ (q2 : Int) := Int.natCast_nonneg _
  have n3 : (0 : Int) ≤ (q3 : Int) := Int.natCast_nonneg _
  have n4 : (0 : Int) ≤ (q4 : Int) := Int.natCast_nonneg _
  have l1 : (q1 : Int) < (n : Int) := by omega
  have l2 : (q2 : Int) < (ma : Int) := by omega
  have l3 : (q3 : Int) < (n : Int) := by omega
  have l4 : (q4 : Int) < (mb : Int) := by omega
  unfold seV
  go_enter Try.func132, Try.ntmps132
  go_upto_region 1 with fail
  generalize hw0 : w.alloc _ = wz at KB BB ⊢
  clear hw0
  obtain ⟨s0, s1, s2, s3⟩ := blk4 KB.out
  have keep : ∀ {b o v}, w.cell? ⟨b, o, none⟩ = some v → wz.cell? ⟨b, o, none⟩ = some v := fun h => (BB.out.cell (p := ⟨_, _, none⟩) (World.block_lt_of_cell? w _ h)).trans h
  have x0 := bey_cell (keep x0)
  have u1 := bey_cell (keep u1)
  have u2 := bey_cell (keep u2)
  have v1 := bey_cell (keep v1)
  have v2 := bey_cell (keep v2)
  have s0 := bey_cell s0
  have s1 := bey_cell s1
  have s2 := bey_cell s2
  have s3 := bey_cell s3
  clear keep
  refine wp_region_below (by kernel_rfl) (by kernel_rfl) ?_
  repeat (go_big_quiet_step (first | (go_at_call 112; with_reducible exact bey_same _ (Z.out _))))
  refine wpQuiet_nil ?_
  rintro _ ⟨pq, rfl⟩
  have HQ := Lib.hid (below_then BB.out pq.h)
  generalize pq.to = wq at HQ ⊢
  clear x0 u1 u2 v1 v2 s0 s1 s2 s3
  go_wp2_with fail
  go_ret
  exact ⟨ret_int HD.out.symm, HQ.out⟩
end Go.Proofs.Ytpmmfalpcooenab.Sdq
