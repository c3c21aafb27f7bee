/- Blocks on a roll: the spec's first rows with room. -/
import Derived.Test.YtgclhkiiaclkgabJtLib
import Derived.Deep.DeepCutAuto
namespace Go.Proofs.Ytgclhkiiaclkgab.Jw
set_option linter.unusedVariables false
open Go.RowKit Is Ge Qb Jr Js Jt
open Go.Proofs.Ytgclhkiiaclkgab.Ba (inB below_then below_box ret_bool blk2)

/-- The first of n numbers from k on for which p holds; k + n if there is none. -/
def fi (p : Nat → Bool) : Nat → Nat → Nat
  | k, 0 => k
  | k, n + 1 => if p k = true then k else fi p (k + 1) n
theorem fi_hit {p : Nat → Bool} {t : Nat} (ht : p t = true) : ∀ {n k : Nat}, k ≤ t → t < k + n → (∀ j, k ≤ j → j < t → p j = false) → fi p k n = t
  | 0, k, h1, h2, _ => by omega
  | n + 1, k, h1, h2, h3 => by
    unfold fi
    by_cases e : k = t
    · subst e; rw [if_pos ht]
    · rw [if_neg (by rw [h3 k (Nat.le_refl _) (by omega)]; simp)]
      exact fi_hit ht (by omega) (by omega) fun j hj => h3 j (by omega)
theorem fi_le {p : Nat → Bool} {t : Nat} (ht : p t = true) : ∀ {n k : Nat}, k ≤ t → fi p k n ≤ t
  | 0, k, h1 => h1
  | n + 1, k, h1 => by
    unfold fi
    split
    · exact h1
    · rename_i h
      by_cases e : k = t
      · subst e; exact absurd ht h
      · exact fi_le ht (by omega)
theorem fi_yes {p : Nat → Bool} {t : Nat} (ht : p t = true) : ∀ {n k : Nat}, k ≤ t → t < k + n → p (fi p k n) = true
  | 0, k, h1, h2 => by omega
  | n + 1, k, h1, h2 => by
    unfold fi
    by_cases h : p k = true
    · rw [if_pos h]; exact h
    · rw [if_neg h]
      by_cases e : k = t
      · subst e; exact absurd ht h
      · exact fi_yes ht (by omega) (by omega)
/-- The first row with room. -/
def rk (roll v : Int) (f : Nat → Int) : Nat := fi (fun k => decide (f k + v ≤ roll)) 0 9
/-- The widths of the rows and the rows of the blocks, after t blocks in an order. -/
def fst (roll : Int) (g : Nat → Int) (o : Nat → Nat) : Nat → (Nat → Int) × (Nat → Int)
  | 0 => (fun _ => 0, fun _ => 0)
  | t + 1 => (fun j => if j = rk roll (g (o t * 2)) (fst roll g o t).1 then (fst roll g o t).1 j + g (o t * 2) else (fst roll g o t).1 j, fun j => if j = o t then ((rk roll (g (o t * 2)) (fst roll g o t).1 : Nat) : Int) else (fst roll g o t).2 j)
theorem fst_in {roll : Int} {n : Nat} {g : Nat → Int} {o : Nat → Nat} (h : BlP roll n g) (ho : ∀ j, j < n → o j < n) : ∀ {t : Nat}, t ≤ n → (∀ k, 0 ≤ (fst roll g o t).1 k ∧ (fst roll g o t).1 k ≤ 5000) ∧ ∀ k, t ≤ k → (fst roll g o t).1 k = 0
  | 0, _ => ⟨fun k => ⟨Int.le_refl _, by show (0 : Int) ≤ 5000; omega⟩, fun k _ => rfl⟩
  | t + 1, hk => by
    obtain ⟨h1, h2⟩ := fst_in h ho (show t ≤ n by omega)
    have h3 := blk_in (h.2 (o t) (ho t (by omega)))
    have h4 := inb h.1.1
    have h9 := h.1.2
    have hy : decide ((fst roll g o t).1 t + g (o t * 2) ≤ roll) = true := by rw [h2 t (Nat.le_refl _)]; simp; omega
    have hle : rk roll (g (o t * 2)) (fst roll g o t).1 ≤ t := fi_le (p := fun k => decide ((fst roll g o t).1 k + g (o t * 2) ≤ roll)) hy (Nat.zero_le _)
    have hyy := fi_yes (p := fun k => decide ((fst roll g o t).1 k + g (o t * 2) ≤ roll)) (n := 9) hy (Nat.zero_le _) (by omega)
    have hyk : (fst roll g o t).1 (rk roll (g (o t * 2)) (fst roll g o t).1) + g (o t * 2) ≤ roll := of_decide_eq_true hyy
    refine ⟨fun k => ?_, fun k hk2 => ?_⟩
    · show 0 ≤ (if k = rk roll (g (o t * 2)) (fst roll g o t).1 then (fst roll g o t).1 k + g (o t * 2) else (fst roll g o t).1 k) ∧ (if k = rk roll (g (o t * 2)) (fst roll g o t).1 then (fst roll g o t).1 k + g (o t * 2) else (fst roll g o t).1 k) ≤ 5000
      have := h1 k
      split
      · rename_i e
        rw [← e] at hyk
        omega
      · exact this
    · show (if k = rk roll (g (o t * 2)) (fst roll g o t).1 then (fst roll g o t).1 k + g (o t * 2) else (fst roll g o t).1 k) = 0
      rw [if_neg (by omega)]
      exact h2 k (by omega)
/-- What the search for a row finds. -/
theorem rk_is {roll v : Int} {f : Nat → Int} {k : Nat} (hk : k < 9) (h1 : ∀ j, j < k → roll < f j + v) (h2 : f k + v ≤ roll) : rk roll v f = k :=
  fi_hit (p := fun k => decide (f k + v ≤ roll)) (decide_eq_true h2) (Nat.zero_le _) (by omega) fun j _ hj => decide_eq_false (by have := h1 j hj; omega)
theorem make_n (n : Nat) (hn : n ≤ 9) (w : World) : (Instr.makeSlice 30 (.int .i64 (n : Int)) (.int .i64 (n : Int))).run Try.prog w = .ok (.slice (some ⟨w.heap.size, 0, none⟩) n n) (w.alloc (.cells (Go.madeCells #[Value.int .i64 0] n) 2)) := by
  obtain ⟨i0, hi0, hz0, hz1, hz2⟩ := info_parts info_int
  have := run_make w _ _ i0 _ Try.underlying30 hi0 hz0 .i64 .i64 (n : Int) (n : Int) (by omega) (by omega) (by rw [hz2]; omega) (by omega)
  rw [hz1] at this
  rw [Int.toNat_natCast, Nat.mul_one] at this
  exact this
theorem at_zero (w : World) (n : Nat) : At (w.alloc (.cells (Go.madeCells #[Value.int .i64 0] n) 2)) w.heap.size n (fun _ => 0) :=
  ⟨by simp, fun i hi => (cell_of_row _ _ _ _ _ _ (heap_alloc_new w _)).trans (by simp [Go.madeCells, hi, Nat.mod_one]), fun i => blk_free (heap_alloc_new w _) i⟩
/-- All that stays while the rows are found. -/
structure Fs (w wr : World) (n : Nat) (o f : Nat → Int) : Prop where
  bel : Below w.heap.size w wr
  out : At wr w.heap.size n o
  wid : At wr (w.heap.size + 1) 9 f
theorem Fs.drewN {w wr : World} {n : Nat} {o f : Nat → Int} (s : Fs w wr n o f) (q : Nat) : Fs w (wr.drewN q) n o f := ⟨below_then s.bel (Js.below_drewN wr q), s.out, s.wid⟩
theorem Fs.below {w wr w' : World} {n : Nat} {o f : Nat → Int} (s : Fs w wr n o f) (hb : Below wr.heap.size wr w') : Fs w w' n o f := ⟨below_then s.bel hb, s.out.below hb, s.wid.below hb⟩
theorem Fs.setW {w wr : World} {n : Nat} {o f f' : Nat → Int} {z : Nat} (s : Fs w wr n o f) (hf : ∀ j, j ≠ z → f' j = f j) : Fs w (wr.setCell ⟨w.heap.size + 1, z, none⟩ (.int .i64 (f' z))) n o f' :=
  ⟨s.bel.setCell (p := ⟨w.heap.size + 1, z, none⟩) (Nat.le_succ _) _, s.out.set (by omega), at_set s.wid hf⟩
theorem Fs.setO {w wr : World} {n : Nat} {o o' f : Nat → Int} {z : Nat} (s : Fs w wr n o f) (hf : ∀ j, j ≠ z → o' j = o j) : Fs w (wr.setCell ⟨w.heap.size, z, none⟩ (.int .i64 (o' z))) n o' f :=
  ⟨s.bel.setCell (p := ⟨w.heap.size, z, none⟩) (Nat.le_refl _) _, at_set s.out hf, s.wid.set (by omega)⟩
set_option maxRecDepth 100000 in
set_option maxHeartbeats 4000000 in
theorem first (A : Option Addr) (n c : Nat) (g : Nat → Int) (roll : Int) (P : Option Addr) (pc : Nat) (o : Nat → Nat) (hB : BlP roll n g) (ho : ∀ j, j < n → o j < n) (w : World) (hA : Nums w w.heap.size A (n * 2) g) (hR : Nums w w.heap.size P n (fun j => (o j : Int))) :
    Calls Try.prog 66 #[.slice A n c, .int .i64 roll, .slice P n pc] w fun e w' => e = .returned (.slice (some ⟨w.heap.size, 0, none⟩) n n) ∧ Below w.heap.size w w' ∧ At w' w.heap.size n (fst roll g o n).2 := by
  have HA := Lib.hid hA
  have HR := Lib.hid hR
  have HO := Lib.hid ho
  have hn9 := hB.1.2
  have hroll := inb hB.1.1
  have FI := Lib.hid (fun t (ht : t ≤ n) => fst_in hB ho ht)
  have BI := Lib.hid (fun k (hk : k < n) => blk_in (hB.2 k hk))
  have S1 : Hid (∀ t, (∀ j, j ≠ rk roll (g (o t * 2)) (fst roll g o t).1 → (fst roll g o (t + 1)).1 j = (fst roll g o t).1 j) ∧ (fst roll g o (t + 1)).1 (rk roll (g (o t * 2)) (fst roll g o t).1) = (fst roll g o t).1 (rk roll (g (o t * 2)) (fst roll g o t).1) + g (o t * 2)) := Lib.hid fun t => ⟨fun j hj => if_neg hj, if_pos rfl⟩
  have S2 : Hid (∀ t, (∀ j, j ≠ o t → (fst roll g o (t + 1)).2 j = (fst roll g o t).2 j) ∧ (fst roll g o (t + 1)).2 (o t) = ((rk roll (g (o t * 2)) (fst roll g o t).1 : Nat) : Int)) := Lib.hid fun t => ⟨fun j hj => if_neg hj, if_pos rfl⟩
  have S0 : Hid (Fs w ((w.alloc (.cells (Go.madeCells #[Value.int .i64 0] n) 2)).alloc (.cells (Go.madeCells #[Value.int .i64 0] 9) 2)) n (fst roll g o 0).2 (fst roll g o 0).1) := Lib.hid ⟨below2 w _ _, (at_zero w n).below (below_box _ _), by
    have := at_nine (w.alloc (.cells (Go.madeCells #[Value.int .i64 0] n) 2))
    rw [World.size_alloc] at this
    exact this⟩
  have hmk1 := make_n n hn9 w
  have hmk2 := make_nine (w.alloc (.cells (Go.madeCells #[Value.int .i64 0] n) 2))
  rw [World.size_alloc] at hmk2
  clear hA hR hB ho
  generalize fst roll g o = F at *
  generalize Obj.cells (Go.madeCells #[Value.int .i64 0] n) 2 = o1 at *
  generalize Obj.cells (Go.madeCells #[Value.int .i64 0] 9) 2 = o9 at *
  go_enter Try.func66, Try.ntmps66
  go_wp2_with fail
  clear hmk1 hmk2
  generalize hw9 : (w.alloc o1).alloc o9 = w2 at S0 ⊢
  clear hw9
  go_loopw [9, 10, 11] (fun i _ _ wr => ∃ t : Nat, t ≤ n ∧ i = .int .i64 (t : Int) ∧ Hid (Fs w wr n (F t).2 (F t).1)) (fun i _ _ _ => n - (intOf i).toNat)
  case atStart => exact ⟨0, Nat.zero_le _, rfl, S0⟩
  case round =>
    obtain ⟨t, ht, rfl, HS⟩ := hrel
    have e0 : (0 : Int) ≤ (t : Int) := Int.natCast_nonneg _
    by_cases hlt : t < n
    · have e1 : (t : Int) < (n : Int) := by omega
      have ht1 : t + 1 ≤ n := by omega
      have hon := HO.out t hlt
      have e2 : (0 : Int) ≤ (o t : Int) := Int.natCast_nonneg _
      have e3 : (o t : Int) < (n : Int) := by omega
      obtain ⟨bp, op, eP, hbp, hcp⟩ := HR.out (by omega)
      obtain ⟨bl, ol, eA, hbl, hcl⟩ := HA.out (by omega)
      subst eP
      subst eA
      have XP : ∀ W, Below w.heap.size w W → W.cell? ⟨bp, op + t, none⟩ = some (.int .i64 (o t : Int)) := fun W h => (h.cell (p := ⟨bp, op + t, none⟩) hbp).trans (hcp t hlt)
      have XL : ∀ W, Below w.heap.size w W → W.cell? ⟨bl, ol + o t * 2, none⟩ = some (.int .i64 (g (o t * 2))) ∧ W.cell? ⟨bl, ol + o t * 2 + 1, none⟩ = some (.int .i64 (g (o t * 2 + 1))) := fun W h => ⟨(h.cell (p := ⟨bl, ol + o t * 2, none⟩) hbl).trans (Blk.cells_at hcl hon).1, (h.cell (p := ⟨bl, ol + o t * 2 + 1, none⟩) hbl).trans (Blk.cells_at hcl hon).2⟩
      have x0 := XP _ HS.out.bel
      obtain ⟨y0, y1⟩ := XL _ HS.out.bel
      have HXP := Lib.hid XP
      obtain ⟨fi1, fi2⟩ := FI.out t (by omega)
      have HF1 := Lib.hid fi1
      have HF2 := Lib.hid fi2
      have u2 := BI.out _ hon
      have S1t := Lib.hid (S1.out t)
      have S2t := Lib.hid (S2.out t)
      clear XP XL hcp hcl FI BI S1 S2 S0 HA HR HO fi1 fi2
      generalize g (o t * 2) = g0 at *
      generalize g (o t * 2 + 1) = g1 at *
      generalize hot : o t = b at *
      have BX : Hid (Fs w (wr.alloc (.cells #[.int .i64 g0, .int .i64 g1] 54)) n (F t).2 (F t).1 ∧ (wr.alloc (.cells #[.int .i64 g0, .int .i64 g1] 54)).heap[wr.heap.size]? = some (.cells #[.int .i64 g0, .int .i64 g1] 54)) := Lib.hid ⟨HS.out.below (below_box _ _), heap_alloc_new _ _⟩
      go_wp2_with fail
      clear x0 y0 y1
      generalize hwb : wr.alloc _ = wb at BX ⊢
      clear hwb
      generalize wr.heap.size = gb at *
      clear HS
      rename World => wbb
      go_loopw [11] (fun u wv => ∃ k : Nat, k ≤ t ∧ u = .int .i64 (k : Int) ∧ Hid (Fs w wv n (F t).2 (F t).1 ∧ wv.heap[gb]? = some (.cells #[.int .i64 g0, .int .i64 g1] 54)) ∧ Hid (∀ j, j < k → roll < (F t).1 j + g0)) (fun u _ => 9 - (intOf u).toNat)
      case atStart => exact ⟨0, Nat.zero_le _, rfl, BX, Lib.hid fun j hj => by omega⟩
      case round =>
        obtain ⟨k, hk, rfl, HV, HL⟩ := hrel
        rename World => wv
        have f0 : (0 : Int) ≤ (k : Int) := Int.natCast_nonneg _
        have f1 : (k : Int) < 9 := by omega
        have hk9 : k < 9 := by omega
        have z0 := HV.out.1.wid.2.1 k hk9
        have z1 := HV.out.1.wid.2.2 k
        obtain ⟨b0, b1⟩ := blk2 HV.out.2
        have u3 := HF1.out k
        have u4 : k = t → (F t).1 k = 0 := fun e => by subst e; exact HF2.out k (Nat.le_refl _)
        have HRK := Lib.hid (fun h => rk_is (roll := roll) (v := g0) hk9 HL.out h)
        have HLS : Hid (roll < (F t).1 k + g0 → ∀ j, j < k + 1 → roll < (F t).1 j + g0) := Lib.hid fun h j hj => by
          by_cases e : j = k
          · subst e; exact h
          · exact HL.out j (by omega)
        have HVD := Lib.hid (fun q => (And.intro (HV.out.1.drewN q) HV.out.2 : Fs w (wv.drewN q) n (F t).2 (F t).1 ∧ (wv.drewN q).heap[gb]? = _))
        by_cases hr : roll < (F t).1 k + g0
        · have HF := Lib.hid (HLS.out hr)
          have hkt : k + 1 ≤ t := by
            by_cases e : k = t
            · have := u4 e; omega
            · omega
          clear HLS HRK HL u4 b1 HXP HF1 HF2 S1t S2t
          generalize (F t).1 k = fk at *
          go_upto_region 8 with fail
          go_quiet (fail)
          have HN := Lib.hid (HVD.out nq)
          go_wp2_with fail
          go_roundw
          case rel => exact ⟨k + 1, hkt, by go_num, HN, HF⟩
          case measure => simp [intOf]; omega
        · have hrk := HRK.out (by omega)
          obtain ⟨q1, q2⟩ := S1t.out
          obtain ⟨q3, q4⟩ := S2t.out
          rw [hrk] at q1 q2 q4
          have HT1 := Lib.hid (fun wx (h : Fs w wx n (F t).2 (F t).1) => h.setW (z := k) (f' := (F (t + 1)).1) q1)
          have HT2 := Lib.hid (fun wx (h : Fs w wx n (F t).2 (F (t + 1)).1) => h.setO (z := b) (o' := (F (t + 1)).2) q3)
          rw [q2] at HT1
          rw [q4] at HT2
          clear HLS HRK HL u4 b1 HF1 HF2 S1t S2t q1 q2 q3 q4 hrk
          generalize (F t).1 k = fk at *
          go_upto_region 8 with fail
          go_quiet (fail)
          have HN := Lib.hid (HT1.out _ (HVD.out nq).1)
          have z0' : (wv.drewN nq).cell? ⟨w.heap.size + 1, k, none⟩ = _ := z0
          have z1' : (wv.drewN nq).frozen? ⟨w.heap.size + 1, k, none⟩ = _ := z1
          have b0' : (wv.drewN nq).cell? ⟨gb, 0, none⟩ = _ := b0
          clear HVD HT1 z0 z1 b0 HV
          generalize wv.drewN nq = wd at *
          have t1 : IntKind.i64.wrap (fk + g0) = fk + g0 := IntWalk.i64_in _ (by omega)
          go_upto_region 10 with fail
          go_region
          all_goals
            generalize hws : World.setCell wd _ _ = ws at HN ⊢
            have a0 := HXP.out _ HN.out.bel
            have c0 : ws.drew.cell? ⟨bp, op + t, none⟩ = _ := a0
            have a1 := HN.out.out.2.2 b
            have a2 := HN.out.out.2.1 b hon
            have c2 : ws.drew.cell? ⟨w.heap.size, b, none⟩ = _ := a2
            have c1 : ws.drew.frozen? ⟨w.heap.size, b, none⟩ = _ := a1
            have HF := Lib.hid (HT2.out _ HN.out)
            have HFd : Hid (Fs w ((ws.setCell ⟨w.heap.size, b, none⟩ (.int .i64 (k : Int))).drew) n (F (t + 1)).2 (F (t + 1)).1) := Lib.hid (HF.out.drewN 1)
            clear hws z0' z1' b0' HT2 HN HXP t1
            go_wp2_with fail
            go_roundw
            case rel => exact ⟨t + 1, ht1, by go_num, by first | exact HF | exact HFd⟩
            case measure => simp [intOf]; omega
    · obtain rfl : t = n := by omega
      have e1 : ¬ (t : Int) < (t : Int) := by omega
      clear FI BI S1 S2 S0 HA HR HO
      go_wp2_with fail
      go_ret
      exact ⟨rfl, HS.out.bel, HS.out.out⟩
end Go.Proofs.Ytgclhkiiaclkgab.Jw
