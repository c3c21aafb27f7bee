/- The edges of one piece, each linked with the next one: the program's. -/
import Derived.Test.YtpmmfalpcooenabPtLib
import Derived.OwnWalk
import Derived.Deep.AppendLies
import Derived.RegionTactic
namespace Go.Proofs.Ytpmmfalpcooenab.Za
set_option linter.unusedVariables false
open Go.RowKit Ft Is Ge Qb Pt

abbrev heC (i j d : Int) (nx ot : Value) : Obj := .cells #[.int .i64 i, .int .i64 j, .int .i64 d, nx, ot] 173
def ptr (b : Nat) : Value := .pointer (some ⟨b, 0, none⟩)
def ptrs (P : Nat → Nat) (k : Nat) : List Value := (List.range k).map fun j => ptr (P j)
theorem ptrs_congr {P Q : Nat → Nat} {k : Nat} (h : ∀ j, j < k → P j = Q j) : ptrs P k = ptrs Q k := by
  unfold ptrs
  refine List.map_congr_left fun j hj => ?_
  rw [h j (by simpa using hj)]
theorem ptrs_snoc (P : Nat → Nat) (k : Nat) : ptrs P (k + 1) = ptrs P k ++ [ptr (P k)] := by simp [ptrs, List.range_succ]
theorem ptrs_get (P : Nat → Nat) {k j : Nat} (h : j < k) : (ptrs P k)[j]? = some (ptr (P j)) := by simp [ptrs, h]
def setP (P : Nat → Nat) (k b : Nat) (j : Nat) : Nat := if j = k then b else P j
theorem setP_old {P : Nat → Nat} {k b j : Nat} (h : j < k) : setP P k b j = P j := if_neg (by omega)
theorem setP_new {P : Nat → Nat} {k b : Nat} : setP P k b k = b := if_pos rfl
theorem own_neT {w : World} {base : Nat} {e t : TypeId} {size n : Nat} {v : Value} {xs : List Value} (h : w.ownsRow base e size v n xs) {b : Nat} {cs : Array Value} (hb : w.heap[b]? = some (.cells cs t (0, 0))) (hne : t ≠ e) : some b ≠ v.ownBlock := fun q => by
  rcases h.2 with ⟨rfl, _⟩ | ⟨g, cap, cur, rfl, _, hh, _⟩
  · cases q
  · cases q
    rw [hb] at hh
    cases hh
    exact hne rfl
theorem own_lt {w : World} {base : Nat} {e : TypeId} {size n : Nat} {v : Value} {xs : List Value} (h : w.ownsRow base e size v n xs) {b : Nat} (hb : w.heap.size ≤ b) : some b ≠ v.ownBlock := fun q => by
  rcases h.2 with ⟨rfl, _⟩ | ⟨g, cap, cur, rfl, _, hh, _⟩
  · cases q
  · cases q
    have := lt_of_heap hh
    change w.heap.size ≤ g at hb
    omega
theorem types_ne : (173 : TypeId) ≠ 169 := by decide
/-- The edges that have been made so far. -/
structure Made (w0 wr : World) (i : Int) (d : Nat → Int) (k : Nat) (v : Value) (P : Nat → Nat) : Prop where
  bel : Below w0.heap.size w0 wr
  row : wr.ownsRow w0.heap.size 169 1 v k (ptrs P k)
  edg : ∀ j, j < k → wr.heap[P j]? = some (heC i (j : Int) (d j) (.pointer none) (.pointer none)) ∧ w0.heap.size ≤ P j
  inc : ∀ j j', j < j' → j' < k → P j < P j'
theorem Made.step {w0 wr w6 : World} {i : Int} {d : Nat → Int} {k : Nat} {v v' : Value} {P : Nat → Nat} {pl : Obj} (h : Made w0 wr i d k v P)
    (hown : w6.ownsRow w0.heap.size 169 1 v' (k + 1) (ptrs P k ++ [.pointer (some ⟨wr.heap.size + 1, 0, none⟩)]))
    (hg : (((wr.alloc pl).alloc (heC i (k : Int) (d k) (.pointer none) (.pointer none))).alloc (.cells #[.pointer (some ⟨wr.heap.size + 1, 0, none⟩)] 169)).grownBy w6 v.ownBlock) :
    Made w0 w6 i d (k + 1) v' (setP P k (wr.heap.size + 1)) := by
  have hs := h.bel.size
  obtain ⟨t1, t2, t3⟩ := three wr pl (heC i (k : Int) (d k) (.pointer none) (.pointer none)) (.cells #[.pointer (some ⟨wr.heap.size + 1, 0, none⟩)] 169)
  have b3 := below3 wr pl (heC i (k : Int) (d k) (.pointer none) (.pointer none)) (.cells #[.pointer (some ⟨wr.heap.size + 1, 0, none⟩)] 169)
  have hlt : ∀ j, j < k → P j < wr.heap.size := fun j hj => lt_of_heap (h.edg j hj).1
  refine ⟨(below_then h.bel b3).grown hg (by simp; omega) fun g hq => ?_, ?_, fun j hj => ?_, fun j j' hj hj' => ?_⟩
  · rcases h.row.2 with ⟨rfl, _⟩ | ⟨g', cap, cur, rfl, hbg, _⟩
    · cases hq
    · cases hq; exact hbg
  · rw [ptrs_snoc, setP_new, ptrs_congr (Q := P) fun j hj => setP_old hj]
    exact hown
  · by_cases e : j = k
    · subst e
      rw [setP_new]
      exact ⟨(hg.block _ (by simp) (own_lt h.row (by omega))).trans t2, by omega⟩
    · rw [setP_old (by omega)]
      obtain ⟨h1, h2⟩ := h.edg j (by omega)
      exact ⟨(hg.block _ (by have := hlt j (by omega); simp; omega) (own_neT h.row h1 types_ne)).trans (blk_keep b3 h1), h2⟩
  · by_cases e : j' = k
    · subst e
      rw [setP_new, setP_old hj]
      have := hlt j hj
      omega
    · rw [setP_old (by omega), setP_old (by omega)]
      exact h.inc j j' hj (by omega)
def nx (m q : Nat) : Nat := (q + 1) % m
theorem nx_lt {m q : Nat} (h : 0 < m) : nx m q < m := Nat.mod_lt _ h
theorem nx_int (m q : Nat) : ((q : Int) + 1) % (m : Int) = ((nx m q : Nat) : Int) := by unfold nx; simp
/-- The ring of which the first q edges have been linked. -/
structure Ring (w0 wr : World) (i : Int) (m : Nat) (d : Nat → Int) (g : Nat) (P : Nat → Nat) (q : Nat) : Prop where
  bel : Below w0.heap.size w0 wr
  low : w0.heap.size ≤ g
  row : ∃ cur, wr.heap[g]? = some (.cells cur 169 (0, 0)) ∧ ∀ j, j < m → cur[j]? = some (ptr (P j))
  edg : ∀ j, j < m → wr.heap[P j]? = some (heC i (j : Int) (d j) (if j < q then ptr (P (nx m j)) else .pointer none) (.pointer none)) ∧ w0.heap.size ≤ P j
  inc : ∀ j j', j < j' → j' < m → P j < P j'
theorem Ring.inj {w0 wr : World} {i : Int} {m : Nat} {d : Nat → Int} {g : Nat} {P : Nat → Nat} {q : Nat} (h : Ring w0 wr i m d g P q) {j j' : Nat} (hj : j < m) (hj' : j' < m) (e : P j = P j') : j = j' := by
  by_cases h1 : j < j'
  · have := h.inc j j' h1 hj'; omega
  · by_cases h2 : j' < j
    · have := h.inc j' j h2 hj; omega
    · omega
theorem Ring.step {w0 wr : World} {i : Int} {m : Nat} {d : Nat → Int} {g : Nat} {P : Nat → Nat} {q : Nat} (h : Ring w0 wr i m d g P q) (hq : q < m) : Ring w0 (wr.setCell ⟨P q, 3, none⟩ (ptr (P (nx m q)))) i m d g P (q + 1) := by
  obtain ⟨cur, h1, h2⟩ := h.row
  have hne : g ≠ P q := fun e => by
    have := (h.edg q hq).1
    rw [← e, h1] at this
    cases this
  refine ⟨h.bel.setCell (h.edg q hq).2 _, h.low, ⟨cur, (Below.heap_setCell _ _ _ _ hne).trans h1, h2⟩, fun j hj => ?_, h.inc⟩
  obtain ⟨e1, e2⟩ := h.edg j hj
  refine ⟨?_, e2⟩
  by_cases e : j = q
  · subst e
    have := heap_set e1 3 (ptr (P (nx m j)))
    rw [if_pos (by omega)]
    exact this
  · have hne : P j ≠ P q := fun z => e (h.inj hj hq z)
    rw [(Below.heap_setCell _ _ _ _ hne).trans e1]
    by_cases hl : j < q
    · rw [if_pos hl, if_pos (by omega)]
    · rw [if_neg hl, if_neg (by omega)]
theorem Made.ring {w0 wr : World} {i : Int} {d : Nat → Int} {m : Nat} {v : Value} {P : Nat → Nat} (h : Made w0 wr i d m v P) (hm : 0 < m) : ∃ g cap, v = .slice (some ⟨g, 0, none⟩) m cap ∧ Ring w0 wr i m d g P 0 := by
  rcases h.row.2 with ⟨_, h0⟩ | ⟨g, cap, cur, rfl, hbg, hh, _, _, _, ht⟩
  · omega
  · exact ⟨g, cap, rfl, h.bel, hbg, ⟨cur, hh, fun j hj => by
      have := h.row.cellAt j (by omega)
      rw [ptrs_get P hj, cell_of_row _ _ _ _ _ _ hh] at this
      exact this⟩, fun j hj => by rw [if_neg (Nat.not_lt_zero _)]; exact h.edg j hj, h.inc⟩
theorem info_ptr : (Try.prog.info? 169).map (fun i => (i.zero, i.size, i.bytes)) = some (some (.pointer none), 1, 8) := by kernel_rfl

set_option maxRecDepth 100000 in
set_option maxHeartbeats 2000000 in
theorem ring_of (i : Int) (A : Option Addr) (m c : Nat) (d : Nat → Int) (h1 : 1 ≤ m) (h8 : m ≤ 8) (w : World) (hA : Nums w w.heap.size A m d) :
    Calls Try.prog 138 #[.int .i64 i, .slice A m c] w fun e w' => ∃ g cap P, e = .returned (.slice (some ⟨g, 0, none⟩) m cap) ∧ Hid (Ring w w' i m d g P m) := by
  obtain ⟨i0, hi0, hz0, hz1, hz2⟩ := info_parts info_ptr
  have HMK : Hid (∀ w : World, (Instr.makeSlice 131 (.int .i64 0) (.int .i64 (m : Int))).run Try.prog w = .ok (.slice (some ⟨w.heap.size, 0, none⟩) 0 m) (w.alloc (.cells (Go.madeCells (Value.pointer none).cells (m * 1)) 169))) := Lib.hid fun w => by
    have := run_make w _ _ i0 _ Try.underlying131 hi0 hz0 .i64 .i64 0 m (by omega) (by omega) (by rw [hz2]; omega) (by omega)
    rw [hz1] at this
    simpa using this
  have HI := Lib.hid (And.intro hi0 (And.intro hz0 (And.intro hz1 hz2)))
  have HA := Lib.hid hA
  clear hA hi0 hz0 hz1 hz2
  have hmk := HMK.out w
  go_enter Try.func138, Try.ntmps138
  go_wp2_with fail
  clear hmk
  have M0 : Hid (Made w (w.alloc (.cells (Go.madeCells #[Value.pointer none] m) 169)) i d 0 (.slice (some ⟨w.heap.size, 0, none⟩) 0 m) (fun _ => 0)) := Lib.hid ⟨below_box _ _, ⟨rfl, .inr ⟨_, m, _, rfl, Nat.le_refl _, heap_alloc_new _ _, by omega, by unfold maxLen; omega, by rw [size_madeCells]; omega, rfl⟩⟩, fun j hj => by omega, fun j j' _ hj => by omega⟩
  go_loopw [5, 6, 7, 8, 16] (fun o _ _ _ i' wr => ∃ (k : Nat) (v : Value) (P : Nat → Nat), k ≤ m ∧ v = o ∧ i' = .int .i64 (k : Int) ∧ Hid (Made w wr i d k v P)) (fun _ _ _ _ i' _ => m - (intOf i').toNat)
  case atStart => exact ⟨0, _, _, Nat.zero_le _, rfl, rfl, M0⟩
  case round =>
    obtain ⟨k, v, P, hk, rfl, rfl, HM⟩ := hrel
    have e0 : (0 : Int) ≤ (k : Int) := Int.natCast_nonneg _
    by_cases hlt : k < m
    · obtain ⟨b, off, rfl, hb, hc⟩ := (HA.out.below HM.out.bel (Nat.le_refl _)) (by omega)
      have x0 := hc k hlt
      have e1 : (k : Int) < (m : Int) := by omega
      have hk1 : k + 1 ≤ m := by omega
      have hsz := HM.out.bel.size
      have ST := Lib.hid (fun w6 v' (h1 : World.ownsRow _ _ _ _ _ _ _) h2 => HM.out.step (pl := .cells #[.int .i64 i, .int .i64 (k : Int)] 171) (w6 := w6) (v' := v') h1 h2)
      have HO := Lib.hid HM.out.row
      generalize d k = dk at x0 ST
      clear hc hk HM
      go_wp2_with (at_builtin; refine wpList_append_own _ rfl _ _ 131 rfl w.heap.size 169 i0 _ 1 8 Try.underlying131 HI.out.1 HI.out.2.1 HI.out.2.2.1 HI.out.2.2.2 rfl (by decide) _ _ _ rfl (((HO.out.alloc _).alloc _).alloc _) ⟨wr.heap.size + 1 + 1, 0, none⟩ 1 1 [.pointer (some ⟨wr.heap.size + 1, 0, none⟩)] rfl rfl ?c1 ?c2 ?c3 ?c4 ?c5 ?_)
      case c1 =>
        intro j u hu
        obtain ⟨_, _, t3⟩ := three wr (.cells #[.int .i64 i, .int .i64 (k : Int)] 171) (heC i (k : Int) dk (.pointer none) (.pointer none)) (.cells #[.pointer (some ⟨wr.heap.size + 1, 0, none⟩)] 169)
        rw [Addr.add_lit, Nat.zero_add]
        have := cell_of_row _ _ j _ _ _ t3
        exact this.trans (by simpa using hu)
      case c2 => simp [Value.oneCell']
      case c3 => unfold maxLen; omega
      case c4 => omega
      case c5 => first | omega | (simp <;> omega)
      intro v' w6 hown2 hgrow _
      have HN := Lib.hid (ST.out w6 v' hown2 hgrow)
      clear hown2 hgrow x0 ST HO
      go_wp2_with fail
      go_roundw
      case rel => exact ⟨k + 1, _, _, hk1, rfl, by go_num, HN⟩
      case measure => simp [intOf]; omega
    · obtain rfl : m = k := by omega
      have e1 : ¬ (m : Int) < (m : Int) := by omega
      obtain ⟨g, cap, rfl, hR⟩ := HM.out.ring (by omega)
      have HR := Lib.hid hR
      clear hR HM hk
      go_wp2_with fail
      go_loopw [9, 10, 34] (fun _ _ i' wr => ∃ (q : Nat), q ≤ m ∧ i' = .int .i64 (q : Int) ∧ Hid (Ring w wr i m d g P q)) (fun _ _ i' _ => m - (intOf i').toNat)
      case atStart => exact ⟨0, Nat.zero_le _, rfl, HR⟩
      case round =>
        obtain ⟨q, hq, rfl, HR⟩ := hrel
        have e0 : (0 : Int) ≤ (q : Int) := Int.natCast_nonneg _
        by_cases hlt : q < m
        · obtain ⟨cur, hrow, hcur⟩ := HR.out.row
          have hn := nx_lt (m := m) (q := q) (by omega)
          have x0 := (cell_of_row _ _ q _ _ _ hrow).trans (hcur q hlt)
          have x1 := (cell_of_row _ _ (nx m q) _ _ _ hrow).trans (hcur (nx m q) hn)
          obtain ⟨y, hy⟩ : ∃ y, wr.cell? ⟨P q, 3, none⟩ = some y := ⟨_, cell_of_row _ _ 3 _ _ _ (HR.out.edg q hlt).1⟩
          have hf := blk_free (HR.out.edg q hlt).1 3
          have HN := Lib.hid (HR.out.step hlt)
          have e1 : (q : Int) < (m : Int) := by omega
          have e2 : (m : Int) ≤ 8 := by omega
          have e3 : ((m : Int) == 0) = false := by simp; omega
          have e4 : (0 : Int) ≤ (q : Int) + 1 := by omega
          have f1 : ¬ ((m : Int) = 0) := by omega
          have f2 : ¬ (m = 0) := by omega
          have e9 : Int.tmod ((q : Int) + 1) (m : Int) = ((nx m q : Nat) : Int) := by rw [Int.tmod_eq_emod_of_nonneg e4]; exact nx_int m q
          have e6 : (0 : Int) ≤ ((nx m q : Nat) : Int) := by omega
          have e7 : ((nx m q : Nat) : Int) < (m : Int) := by omega
          have hq1 : q + 1 ≤ m := by omega
          unfold ptr at x0 x1 HN
          clear hrow hcur hq
          go_wp2_with fail
          go_roundw
          case rel => exact ⟨q + 1, hq1, by go_num, HN⟩
          case measure => simp [intOf]; omega
        · obtain rfl : q = m := by omega
          have e1 : ¬ (q : Int) < (q : Int) := by omega
          go_wp2_with fail
          go_ret
          exact ⟨_, ⟨_, rfl⟩, P, HR⟩
end Go.Proofs.Ytpmmfalpcooenab.Za
