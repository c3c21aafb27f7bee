/- Hides: the program's PlanLines. -/
import Derived.Test.YtongfgikkcieaaaThLib
namespace Go.Proofs.Ytongfgikkcieaaa.Ti
set_option linter.unusedVariables false
open Go.RowKit Go.Shelf Ft Is Ge Qb Hd Ts Tx H2 H5 H6 H7 H9 T1 T2 T3 T4 T5 T6 T7 T8 T9 Th
open Go.Proofs.Ytongfgikkcieaaa.Nm (byt byt_of)
attribute [local go_sem] Oper.semAt_some

/-- A letter of a plan's picture, i pieces drawn. -/
def lt (D : Nat) (S : ByteArray) (g p : Nat → Int) : Nat → Nat → Int
  | 0, z => byt S z
  | i + 1, z => if (foP D g p i).testBit z = true then 48 + (i : Int) else lt D S g p i z
theorem lt_in (D : Nat) (S : ByteArray) (g p : Nat → Int) : ∀ {i : Nat} (z : Nat), i ≤ 100 → 0 ≤ lt D S g p i z ∧ lt D S g p i z ≤ 255
  | 0, z, _ => by
    show 0 ≤ byt S z ∧ byt S z ≤ 255
    unfold Nm.byt
    split
    · have := UInt8.toNat_lt (S[z]); omega
    · omega
  | i + 1, z, h => by
    have := lt_in D S g p (i := i) z (by omega)
    unfold lt
    split <;> omega
/-- A piece covers a field just if its set has it. -/
theorem cov_bit {n : Nat} {C : Nat} {q : Nat → Nat → Int} {g p : Nat → Int} {i y x : Nat} (hn : n ≤ 6) (hC : 1 ≤ C ∧ C ≤ 6) (hy : y < n) (hx : x < C) (hg : 1 ≤ g (i * 4) ∧ 1 ≤ g (i * 4 + 1)) (hf : 0 ≤ p i → FitP n C q (g (i * 4)) (g (i * 4 + 1)) (g (i * 4 + 2)) (p i).toNat) :
    cov C g p i y x ↔ (foP C g p i).testBit (y * C + x) = true := by
  have h36 := size_36 hn hC.2
  obtain ⟨d1, d2⟩ := dm (r := y) (c := x) (C := C) hx
  have hl := row_lt (n := n) (C := C) hy hx
  by_cases h0 : 0 ≤ p i
  · have hf := hf h0
    obtain ⟨W, hW⟩ : ∃ W : Nat, g (i * 4) = (W : Int) := ⟨(g (i * 4)).toNat, by omega⟩
    obtain ⟨H, hH⟩ : ∃ H : Nat, g (i * 4 + 1) = (H : Int) := ⟨(g (i * 4 + 1)).toNat, by omega⟩
    obtain ⟨t, ht⟩ : ∃ t : Nat, p i = (t : Int) := ⟨(p i).toNat, by omega⟩
    rw [hW, hH, ht, Int.toNat_natCast] at hf
    have hfo : foP C g p i = pcN C W t H := by
      unfold foP
      rw [if_neg (by omega), hW, hH, ht, Int.toNat_natCast, Int.toNat_natCast, Int.toNat_natCast, fo_fit hf]
    have hf2 := hf.2.1
    unfold cov
    rw [hfo, hW, hH, ht, Int.toNat_natCast]
    constructor
    · rintro ⟨_, a1, a2, a3, a4⟩
      have e1 : t / C + (y - t / C) = y := by omega
      have e2 : t % C + (x - t % C) = x := by omega
      have := pc_in (C := C) (W := W) (t := t) (H := H) (k := y - t / C) (x := x - t % C) (by omega) (by omega) (by rw [e1, e2]; omega)
      rwa [e1, e2] at this
    · intro h
      obtain ⟨k, x', hk, hx', c1, c2, _⟩ := pc_at hC.1 (by omega) h
      rw [d1] at c1
      rw [d2] at c2
      omega
  · have hfo : foP C g p i = 0 := by unfold foP; rw [if_pos (by omega)]
    rw [hfo, Nat.zero_testBit]
    constructor
    · intro h; exact absurd h.1 h0
    · intro h; cases h
theorem lt_pix {n : Nat} {f : Nat → ByteArray} {g p : Nat → Int} {m y x : Nat} (hal : AlP n f) (hy : y < n) (hx : x < (f 0).size) (hg : ∀ i, i < m → 1 ≤ g (i * 4) ∧ 1 ≤ g (i * 4 + 1)) (hf : ∀ i, i < m → 0 ≤ p i → FitP n (f 0).size (qf f) (g (i * 4)) (g (i * 4 + 1)) (g (i * 4 + 2)) (p i).toNat) :
    ∀ i, i ≤ m → lt (f 0).size (jnS f n) g p i (y * (f 0).size + x) = pix f g p y i x
  | 0, _ => by
    show byt (jnS f n) (y * (f 0).size + x) = byt (f y) x
    rw [jn_byt hal.2.2.1 hal.1 (row_lt hy hx)]
    obtain ⟨d1, d2⟩ := dm (r := y) (c := x) (C := (f 0).size) hx
    rw [d1, d2]
  | i + 1, hi => by
    have ih := lt_pix hal hy hx hg hf i (by omega)
    have hc := cov_bit (q := qf f) hal.2.1.2 hal.2.2 hy hx (hg i (by omega)) (hf i (by omega))
    unfold lt
    by_cases h : (foP (f 0).size g p i).testBit (y * (f 0).size + x) = true
    · rw [if_pos h, pix_yes (hc.2 h)]
    · rw [if_neg h, pix_no fun e => h (hc.1 e), ih]
/-- A chunk as a text. -/
theorem conv_chunk {W : World} {b D y cap : Nat} {f : Nat → ByteArray} {g p : Nat → Int} {m n : Nat} (hm : m ≤ 100) (hD : (f 0).size = D) (hy : y < n) (h : LineAt W b (n * D) (lt D (jnS f n) g p m)) (hp : ∀ x, x < D → lt D (jnS f n) g p m (y * D + x) = pix f g p y m x) :
    (convert 65 9 (.slice (some ⟨b, y * D, none⟩) D cap)).run Try.prog W = .ok (.string (plS f g p m y)) W := by
  have hl : (plB f g p m y).length = D := by simp [plB, hD]
  have := run_convert_bytes_back W 65 9 5 ⟨b, y * D, none⟩ cap (plB f g p m y) Try.underlying65 Try.underlying5 Try.underlying9 fun j hj => by
    rw [hl] at hj
    rw [Addr.add_lit]
    have hlt := row_lt (n := n) (C := D) hy hj
    rw [(h.2 _ hlt).1, hp j hj]
    have := pix_in f g p y (i := m) j hm
    simp [plB]
    omega
  rw [hl] at this
  exact this
theorem box_set {W : World} {B B' : Nat} {t : TypeId} {v u : Value} (h : Boxed W B t v) (hne : B ≠ B') : Boxed (W.setCell ⟨B', 0, none⟩ u) B t v := (Below.heap_setCell _ _ _ _ hne).trans h
set_option maxRecDepth 100000 in
theorem pn_bad (A : Option Addr) (n c : Nat) (f : Nat → ByteArray) (G : Option Addr) (k gc : Nat) (g : Nat → Int) (P : Option Addr) (m pc : Nat) (p : Nat → Int) (hn : n ≤ 1048576) (hs : ∀ i, i < n → (f i).size ≤ 1048576) (hk : k ≤ 1048576) (hm : m ≤ 1048576) (hcap : n ≤ c) (w : World) (h : H6.Ask w A n f G k g P m p) (hbad : ¬ gdC n f k g m p = 0) :
    Calls Try.prog 51 #[.slice A n c, .slice G k gc, .slice P m pc] w (PairT (pnN n f k g m p) (plS f g p m) (gdC n f k g m p) w) := by
  have C := Lib.hid (isound A n c f G k gc g P m pc p hn hs hk hm hcap w h)
  have HBX := Lib.hid (fun w n C s a b c d P u fa => below_box w (lyC n C s a b c d P u fa))
  have V0 : Hid (∀ W, Below w.heap.size w W → PairT (pnN n f k g m p) (plS f g p m) (gdC n f k g m p) w (.returned (.tuple #[.slice none 0 0, .int .i64 (gdC n f k g m p)])) W) := Lib.hid fun W hb => by
    unfold pnN; rw [if_neg hbad]; exact pairT_no hb _
  have hcd : (gdC n f k g m p != 0) = true := by simpa using hbad
  clear h
  generalize PairT (pnN n f k g m p) (plS f g p m) (gdC n f k g m p) w = Q at V0 ⊢
  refine (callsIn_wide (n := 3)).1 ?_
  refine callsIn_of_wp_marks Try.func51 rfl trivial ?_ rfl
  simp only [Try.ntmps51, List.size_toArray, List.length_cons, List.length_nil, Nat.reduceAdd, Nat.reduceSub, Array.replicate_succ, Array.replicate_zero, List.push_toArray, List.append_toArray, List.nil_append, List.cons_append]
  gi_wp2
  refine ⟨trivial, ((callsIn_wide (n := 2)).2 C.out).mono ?_⟩
  intro e w1 hl
  rcases hl with ⟨h2, rfl, b1⟩ | ⟨h1, _⟩
  · have HF := Lib.hid (V0.out _ (below_then b1 (HBX.out w1 0 0 ⟨#[]⟩ 0 0 0 0 (.slice none 0 0) 0 0)))
    generalize gdC n f k g m p = cd at HF hcd
    clear C V0 HBX b1 h2 hbad
    gi_wp2
    exact ⟨.tuple #[.slice none 0 0, .int .i64 cd], by simp [results, Try.results51, go_sem], HF.out⟩
  · exact absurd h1 hbad
end Go.Proofs.Ytongfgikkcieaaa.Ti
