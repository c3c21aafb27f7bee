/- Hides: the spec's: the code of a plan, pieces that meet, the first fault, the worth; PlanFault, PlanWorth. -/
import Derived.Test.YtongfgikkcieaaaH4Lib
import Derived.Test.YtongfgikkcieaaaHpLib
namespace Go.Proofs.Ytongfgikkcieaaa.H5
set_option linter.unusedVariables false
open Go.RowKit Ft Is Ge Qb Hd Ts H2 H3
open Go.Proofs.Ytongfgikkcieaaa.Nm (byt byt_of)

/-- The first place that says yes; -1 if none does. -/
def ff (p : Nat → Bool) (m : Nat) : Int := match (List.range m).find? p with | some i => (i : Int) | none => -1
theorem ff_none {p : Nat → Bool} {m : Nat} (h : ∀ j, j < m → p j = false) : ff p m = -1 := by
  have : (List.range m).find? p = none := List.find?_eq_none.2 fun x hx => by rw [h x (List.mem_range.1 hx)]; simp
  unfold ff; rw [this]
theorem ff_at {p : Nat → Bool} {m k : Nat} (hk : k < m) (hp : p k = true) (h : ∀ j, j < k → p j = false) : ff p m = (k : Int) := by
  have : (List.range m).find? p = some k := by
    rw [List.find?_range_eq_some]
    exact ⟨hp, List.mem_range.2 hk, fun j hj => by rw [h j hj]; rfl⟩
  unfold ff; rw [this]
theorem ff_cases (p : Nat → Bool) (m : Nat) : (ff p m = -1 ∧ ∀ j, j < m → p j = false) ∨ ∃ k, k < m ∧ p k = true ∧ (∀ j, j < k → p j = false) ∧ ff p m = (k : Int) := by
  by_cases h : ∃ k, k < m ∧ p k = true
  · obtain ⟨k, hk, hp⟩ := h
    have : ∀ k, k < m → p k = true → ∃ k, k < m ∧ p k = true ∧ ∀ j, j < k → p j = false := by
      intro k
      induction k using Nat.strongRecOn with
      | ind k ih =>
        intro hk hp
        by_cases q : ∃ j, j < k ∧ p j = true
        · obtain ⟨j, hj, hpj⟩ := q
          exact ih j hj (by omega) hpj
        · refine ⟨k, hk, hp, fun j hj => ?_⟩
          cases e : p j
          · rfl
          · exact absurd ⟨j, hj, e⟩ q
    obtain ⟨k, h1, h2, h3⟩ := this k hk hp
    exact .inr ⟨k, h1, h2, h3, ff_at h1 h2 h3⟩
  · have : ∀ j, j < m → p j = false := fun j hj => by
      cases e : p j
      · rfl
      · exact absurd ⟨j, hj, e⟩ h
    exact .inl ⟨ff_none this, this⟩
set_option maxRecDepth 100000 in
set_option maxHeartbeats 1000000 in
theorem meet (C : Nat) (W H q d W' H' q' d' : Int) (t u : Nat) (hC : 1 ≤ C ∧ C ≤ 6) (ht : t < 36) (hu : u < 36) (h1 : 1 ≤ W ∧ W ≤ 6) (h2 : 1 ≤ H ∧ H ≤ 6) (h3 : 1 ≤ W' ∧ W' ≤ 6) (h4 : 1 ≤ H' ∧ H' ≤ 6) (w : World) :
    Calls Try.prog 116 #[.int .i64 (C : Int), cuV W H q d, .int .i64 (t : Int), cuV W' H' q' d', .int .i64 (u : Int)] w fun e w' => e = .returned (.bool (tv (MeetP C W H t W' H' u))) ∧ Below w.heap.size w w' := by
  have N1 : Hid (¬ ((t % C : Nat) : Int) < ((u % C : Nat) : Int) + W' → tv (MeetP C W H t W' H' u) = false) := Lib.hid fun h => tv_no fun e => h e.1
  have N2 : Hid (¬ ((u % C : Nat) : Int) < ((t % C : Nat) : Int) + W → tv (MeetP C W H t W' H' u) = false) := Lib.hid fun h => tv_no fun e => h e.2.1
  have N3 : Hid (¬ ((t / C : Nat) : Int) < ((u / C : Nat) : Int) + H' → tv (MeetP C W H t W' H' u) = false) := Lib.hid fun h => tv_no fun e => h e.2.2.1
  have N4 : Hid (((t % C : Nat) : Int) < ((u % C : Nat) : Int) + W' → ((u % C : Nat) : Int) < ((t % C : Nat) : Int) + W → ((t / C : Nat) : Int) < ((u / C : Nat) : Int) + H' → tv (MeetP C W H t W' H' u) = decide (((u / C : Nat) : Int) < ((t / C : Nat) : Int) + H)) := Lib.hid fun e1 e2 e3 => by
    by_cases e4 : ((u / C : Nat) : Int) < ((t / C : Nat) : Int) + H
    · rw [tv_yes ⟨e1, e2, e3, e4⟩, decide_eq_true e4]
    · rw [tv_no fun e => e4 e.2.2.2, decide_eq_false e4]
  have D1 : ((t : Int) / (C : Int)) = ((t / C : Nat) : Int) := by rw [Int.natCast_ediv]
  have D2 : ((t : Int) % (C : Int)) = ((t % C : Nat) : Int) := by rw [Int.natCast_emod]
  have D3 : ((u : Int) / (C : Int)) = ((u / C : Nat) : Int) := by rw [Int.natCast_ediv]
  have D4 : ((u : Int) % (C : Int)) = ((u % C : Nat) : Int) := by rw [Int.natCast_emod]
  have l1 : t / C ≤ 36 := by have := Nat.div_le_self t C; omega
  have l2 : t % C ≤ 36 := by have := Nat.mod_le t C; omega
  have l3 : u / C ≤ 36 := by have := Nat.div_le_self u C; omega
  have l4 : u % C ≤ 36 := by have := Nat.mod_le u C; omega
  have e1 : (0 : Int) ≤ (t : Int) := Int.natCast_nonneg _
  have e2 : (0 : Int) ≤ (u : Int) := Int.natCast_nonneg _
  have hk1 : ¬ (C : Int) = 0 := by omega
  have hk2 : ¬ (C : Int) = -1 := by omega
  have hk0 : ((C : Int) == 0) = false := beq_eq_false_iff_ne.2 hk1
  have hk3 : ((C : Int) == -1) = false := beq_eq_false_iff_ne.2 hk2
  have hk4 : ¬ C = 0 := by omega
  obtain ⟨ka, kb⟩ := Ge.two w (cuC W H q d) (cuC W' H' q' d')
  have KA := Lib.hid ka
  have KB := Lib.hid kb
  have HB := Lib.hid (below2 w (cuC W H q d) (cuC W' H' q' d'))
  clear ka kb
  generalize tv (MeetP C W H t W' H' u) = r at N1 N2 N3 N4 ⊢
  generalize t / C = y at N3 N4 D1 l1
  generalize t % C = x at N1 N2 N4 D2 l2
  generalize u / C = v at N3 N4 D3 l3
  generalize u % C = z at N1 N2 N4 D4 l4
  unfold cuV
  unfold cuC at KA KB HB
  go_enter Try.func116, Try.ntmps116
  go_upto_region 5 with fail
  try rw [D2]
  try rw [D4]
  try rw [D1]
  try rw [D3]
  generalize hw0 : (w.alloc _).alloc _ = w0 at KA KB HB ⊢
  clear hw0 D1 D2 D3 D4 hk0 hk1 hk2 hk3 hk4
  obtain ⟨a0, a1, a2, a3⟩ := blk4 KA.out
  obtain ⟨b0, b1, b2, b3⟩ := blk4 KB.out
  by_cases q1 : (x : Int) < (z : Int) + W'
  · by_cases q2 : (z : Int) < (x : Int) + W
    · by_cases q3 : (y : Int) < (v : Int) + H'
      · have HF := Lib.hid (N4.out q1 q2 q3)
        go_wp2_with fail
        go_ret
        exact ⟨Ba.ret_bool HF.out.symm, HB.out⟩
      · have HF := Lib.hid (N3.out q3)
        go_wp2_with fail
        go_ret
        exact ⟨Ba.ret_bool HF.out.symm, HB.out⟩
    · have HF := Lib.hid (N2.out q2)
      go_wp2_with fail
      go_ret
      exact ⟨Ba.ret_bool HF.out.symm, HB.out⟩
  · have HF := Lib.hid (N1.out q1)
    go_wp2_with fail
    go_ret
    exact ⟨Ba.ret_bool HF.out.symm, HB.out⟩
set_option maxRecDepth 100000 in
set_option maxHeartbeats 1000000 in
theorem code (A : Option Addr) (n c : Nat) (f : Nat → ByteArray) (G : Option Addr) (k gc : Nat) (g : Nat → Int) (P : Option Addr) (m pc : Nat) (p : Nat → Int) (hn : n ≤ 1048576) (hs : ∀ i, i < n → (f i).size ≤ 1048576) (hk : k ≤ 1048576) (hm : m ≤ 1048576) (w : World) (hA : Txts w w.heap.size A n f) (hG : Nums w w.heap.size G (k * 4) g) (hP : Nums w w.heap.size P m p) :
    Calls Try.prog 74 #[.slice A n c, .slice G k gc, .slice P m pc] w fun e w' => e = .returned (.int .i64 (plC n f k g m p)) ∧ Below w.heap.size w w' := by
  have HA := Lib.hid hA
  have HP := Lib.hid hP
  have C0 := Lib.hid (He.spec_ok A n c f hn hs w hA)
  have C1 := Lib.hid (fun w' (h : Below w.heap.size w w') => cuts G k gc g hk w' ((hG.below h (Nat.le_refl _)).more h.size))
  have V0 : Hid (tv (HideP n f) = false ∨ tv (CutsP k g) = false → plC n f k g m p = 1) := Lib.hid fun h => by
    unfold plC
    rw [if_pos]
    rintro ⟨h1, h2⟩
    rcases h with h | h
    · rw [tv_yes h1] at h; cases h
    · rw [tv_yes h2] at h; cases h
  have V1 : Hid (tv (HideP n f) = true → tv (CutsP k g) = true → ∀ i, i < m → Ba.inB (p i) (-1) ((n : Int) * ((f 0).size : Int) - 1) = false → plC n f k g m p = 2) := Lib.hid fun h1 h2 i hi h => by
    unfold plC
    rw [if_neg (fun q => q ⟨tv_iff.1 h1, tv_iff.1 h2⟩), if_neg]
    rintro ⟨h3, _⟩
    rw [h3 i hi] at h; cases h
  have V2 : Hid (tv (HideP n f) = true → tv (CutsP k g) = true → ¬ m = k → plC n f k g m p = 2) := Lib.hid fun h1 h2 h => by
    unfold plC
    rw [if_neg (fun q => q ⟨tv_iff.1 h1, tv_iff.1 h2⟩), if_neg fun q => h q.2]
  have V3 : Hid (tv (HideP n f) = true → tv (CutsP k g) = true → (∀ i, i < m → Ba.inB (p i) (-1) ((n : Int) * ((f 0).size : Int) - 1) = true) → m = k → plC n f k g m p = 0) := Lib.hid fun h1 h2 h3 h4 => by
    unfold plC
    rw [if_neg (fun q => q ⟨tv_iff.1 h1, tv_iff.1 h2⟩), if_pos ⟨h3, h4⟩]
  have HH : Hid (tv (HideP n f) = true → HideP n f) := Lib.hid fun h => tv_iff.1 h
  have CI := Lib.hid (fun i w => Ba.in_any (p i) (-1) ((n : Int) * ((f 0).size : Int) - 1) w)
  clear hA hG hP
  generalize plC n f k g m p = r at V0 V1 V2 V3 ⊢
  generalize tv (HideP n f) = r0 at C0 V0 V1 V2 V3 HH
  generalize tv (CutsP k g) = r1 at C1 V0 V1 V2 V3
  go_enter Try.func74, Try.ntmps74
  go_wp2_with fail
  refine C0.out.mono ?_
  rintro e w1 ⟨rfl, b1⟩
  have HB1 := Lib.hid b1
  clear b1 C0
  cases r0
  · have HF := Lib.hid (V0.out (.inl rfl))
    go_wp2_with fail
    go_ret
    exact ⟨Ba.ret_int HF.out.symm, HB1.out⟩
  have D1 := Lib.hid (C1.out w1 HB1.out)
  clear C1
  go_wp2_with fail
  refine D1.out.mono ?_
  rintro e w2 ⟨rfl, b2⟩
  have HB2 := Lib.hid (below_then HB1.out b2)
  clear b2 D1 HB1
  cases r1
  · have HF := Lib.hid (V0.out (.inr rfl))
    go_wp2_with fail
    go_ret
    exact ⟨Ba.ret_int HF.out.symm, HB2.out⟩
  have hh := HH.out (by first | rfl | trivial)
  have W1 := Lib.hid (V1.out (by first | rfl | trivial) (by first | rfl | trivial))
  have W2 := Lib.hid (V2.out (by first | rfl | trivial) (by first | rfl | trivial))
  have W3 := Lib.hid (V3.out (by first | rfl | trivial) (by first | rfl | trivial))
  have hc0 := hh.cols
  have hn6 := hh.2
  have h36 : n * (f 0).size ≤ 6 * 6 := Nat.mul_le_mul (by omega) (by omega)
  have hprod : (n : Int) * ((f 0).size : Int) = ((n * (f 0).size : Nat) : Int) := (Int.natCast_mul _ _).symm
  have hw0 : IntKind.i64.wrap ((n : Int) * ((f 0).size : Int)) = ((n * (f 0).size : Nat) : Int) := by rw [hprod]; exact IntWalk.i64_in _ (by omega)
  rw [hprod] at CI W1 W3
  have HC : Hid (∀ wr, Below w.heap.size w wr → ∃ bk off, A = some ⟨bk, off, none⟩ ∧ wr.cell? ⟨bk, off, none⟩ = some (.string (f 0))) := Lib.hid fun wr hb => by
    obtain ⟨bk, off, e, h1, h2⟩ := HA.out (by omega)
    have := h2 0 (by omega)
    rw [Nat.add_zero] at this
    exact ⟨bk, off, e, (hb.cell (p := ⟨bk, off, none⟩) h1).trans this⟩
  clear V0 V1 V2 V3 HH hh HA hprod
  generalize f 0 = z at *
  generalize n * z.size = N at *
  have e2 : (0 : Int) < (n : Int) := by omega
  have e3 : 0 < n := by omega
  go_wp2_with fail
  go_loopw [7] (fun i wr => ∃ j : Nat, j ≤ m ∧ i = .int .i64 (j : Int) ∧ Hid (Below w.heap.size w wr) ∧ Hid (∀ i, i < j → Ba.inB (p i) (-1) ((N : Int) - 1) = true)) (fun i _ => m - (intOf i).toNat)
  case atStart => exact ⟨0, Nat.zero_le _, rfl, HB2, Lib.hid fun j hj => by omega⟩
  case round =>
    obtain ⟨j, hj, rfl, HB, HI⟩ := hrel
    have e0 : (0 : Int) ≤ (j : Int) := Int.natCast_nonneg _
    by_cases hlt : j < m
    · have e1 : (j : Int) < (m : Int) := by omega
      obtain ⟨bk, off, rfl, y0⟩ := HC.out wr HB.out
      obtain ⟨b, o2, rfl, hb, hc⟩ := (HP.out.below HB.out (Nat.le_refl _)) (by omega)
      have x0 := hc j hlt
      have C := Lib.hid (fun w => CI.out j w)
      have W1j := Lib.hid (W1.out j hlt)
      have HS := Lib.hid (fun h => step_all (p := fun i => Ba.inB (p i) (-1) ((N : Int) - 1)) HI.out (k := j) h)
      have hj1 : j + 1 ≤ m := by omega
      have HQ := Lib.hid (fun q => below_then HB.out (He.below_drewN wr q))
      generalize Ba.inB (p j) (-1) ((N : Int) - 1) = rr at C W1j HS
      generalize p j = pj at x0 C
      clear hc hj
      cases rr
      · have HF := Lib.hid (W1j.out rfl)
        go_upto_region 6 with fail
        go_quiet ((go_at_call 62; with_reducible exact Calls.quiet_of_same ((C.out _).mono fun _ _ h => ⟨h.1, h.2.symm⟩)))
        have HZ := Lib.hid (HQ.out nq)
        go_wp2_with fail
        go_ret
        exact ⟨Ba.ret_int HF.out.symm, HZ.out⟩
      · have HD := Lib.hid (HS.out rfl)
        go_upto_region 6 with fail
        go_quiet ((go_at_call 62; with_reducible exact Calls.quiet_of_same ((C.out _).mono fun _ _ h => ⟨h.1, h.2.symm⟩)))
        have HZ := Lib.hid (HQ.out nq)
        go_wp2_with fail
        go_roundw
        case rel => exact ⟨j + 1, hj1, by go_num, HZ, HD⟩
        case measure => simp [intOf]; omega
    · obtain rfl : j = m := by omega
      have e1 : ¬ (j : Int) < (j : Int) := by omega
      by_cases hmk : j = k
      · have HF := Lib.hid (W3.out HI.out hmk)
        subst hmk
        have d1 : ((j : Int) != (j : Int)) = false := by simp
        go_wp2_with fail
        go_ret
        exact ⟨Ba.ret_int HF.out.symm, HB.out⟩
      · have HF := Lib.hid (W2.out hmk)
        have d1 : ((j : Int) != (k : Int)) = true := by simp; omega
        go_wp2_with fail
        go_ret
        exact ⟨Ba.ret_int HF.out.symm, HB.out⟩
end Go.Proofs.Ytongfgikkcieaaa.H5
