/- Open edges: how many there are; the spec's list of them. -/
import Derived.Test.YtpmmfalpcooenabUyLib
namespace Go.Proofs.Ytpmmfalpcooenab.Vo
set_option linter.unusedVariables false
open Go.RowKit Go.Maps Ft Is Ge Qb Pt Pv Za Mm Zb Zc Zd Vq Sdq Sdu Uf Ug Uh Uk Uc Uq Ux Uy

theorem cc_flip {p p' : Nat → Bool} {t0 : Nat} : ∀ {E : Nat}, (∀ t, t < E → t ≠ t0 → p t = p' t) → t0 < E → p t0 = true → p' t0 = false → cc p E = cc p' E + 1
  | 0, _, h, _, _ => by omega
  | E + 1, h, h0, h1, h2 => by
    rw [cc, cc]
    by_cases e : t0 = E
    · subst e
      rw [h1, h2, cc_congr (p := p) (q := p') (fun i hi => h i (by omega) (by omega))]
      simp
    · rw [cc_flip (fun t ht hn => h t (by omega) hn) (by omega) h1 h2, h E (by omega) (Ne.symm e)]
      omega
theorem eg_inj {ms : Nat → Nat} {n t t' : Nat} (hm : ∀ i, i < n → ms i ≤ 8) (h : t < sumN ms n) (h' : t' < sumN ms n) (e : eg ms n t = eg ms n t') : t = t' := by
  have : gX ms n t = gX ms n t' := by unfold gX; rw [e]
  rcases Nat.lt_trichotomy t t' with q | q | q
  · have := gX_rise hm q h'; omega
  · exact q
  · have := gX_rise hm q h; omega
/-- An edge of which no seam is sewn. -/
def opB (ms : Nat → Nat) (n : Nat) (S : Nat → Int) (k t : Nat) : Bool := (mate S k (eg ms n t)).isNone
theorem open_count {n : Nat} {ms : Nat → Nat} {S : Nat → Int} (hm : ∀ i, i < n → ms i ≤ 8) : ∀ {k : Nat}, (∀ j, j < k → SwP n ms S j) → (∀ j, j < k → endA S j ∈ plc ms n ∧ endB S j ∈ plc ms n) → cc (opB ms n S k) (sumN ms n) + 2 * k = sumN ms n
  | 0, _, _ => by
    have : ∀ E, cc (opB ms n S 0) E = E := fun E => by
      induction E with
      | zero => rfl
      | succ E ih => rw [cc, ih]; rfl
    rw [this]; omega
  | k + 1, hs, hp => by
    have ih := open_count (k := k) hm (fun j hj => hs j (by omega)) (fun j hj => hp j (by omega))
    obtain ⟨_, n1, n2, n3⟩ := hs k (by omega)
    obtain ⟨q1, q2⟩ := hp k (by omega)
    obtain ⟨ta, hta, ea⟩ := eg_of q1
    obtain ⟨tb, htb, eb⟩ := eg_of q2
    have hab : ta ≠ tb := fun e => n3 (by rw [← ea, ← eb, e])
    have h1 := cc_flip (p := opB ms n S k) (p' := fun t => opB ms n S k t && decide (t ≠ ta)) (t0 := ta) (E := sumN ms n) (fun t ht hn => by simp [hn]) hta (by unfold opB; rw [ea, n1]; rfl) (by simp)
    have h2 := cc_flip (p := fun t => opB ms n S k t && decide (t ≠ ta)) (p' := opB ms n S (k + 1)) (t0 := tb) (E := sumN ms n) (fun t ht hn => by
      unfold opB
      rw [mate_succ]
      by_cases e : t = ta
      · subst e
        rw [if_pos ea]
        simp
      · rw [if_neg (fun q => e (eg_inj hm ht hta (q.trans ea.symm))), if_neg (fun q => hn (eg_inj hm ht htb (q.trans eb.symm)))]
        simp [e]) htb (by
      have : opB ms n S k tb = true := by unfold opB; rw [eb, n2]; rfl
      simp [this, Ne.symm hab]) (by
      unfold opB
      rw [eb, mate_succ, if_neg (Ne.symm n3), if_pos rfl]
      rfl)
    omega
theorem cc_add (p : Nat → Bool) (s r : Nat) : cc p (s + (r + 1)) = cc p (s + r) + (if p (s + r) then 1 else 0) := rfl
theorem info_rw : (Try.prog.info? 22).map (fun i => (i.zero, i.size, i.bytes)) = some (some (.slice none 0 0), 1, 24) := by kernel_rfl
/-- The open edges among the first t. -/
def ol (ms : Nat → Nat) (n : Nat) (S : Nat → Int) (k : Nat) : Nat → List (Nat × Nat)
  | 0 => []
  | t + 1 => if opB ms n S k t then ol ms n S k t ++ [eg ms n t] else ol ms n S k t
theorem ol_len (ms : Nat → Nat) (n : Nat) (S : Nat → Int) (k : Nat) : ∀ t, (ol ms n S k t).length = cc (opB ms n S k) t
  | 0 => rfl
  | t + 1 => by
    rw [ol, cc]
    by_cases h : opB ms n S k t = true
    · rw [if_pos h, if_pos h, List.length_append, ol_len]; rfl
    · rw [if_neg h, if_neg h, ol_len]; rfl
/-- Rows of two numbers, each in a block of its own. -/
structure OM (w : World) (B : Nat) (v : Value) (l : List (Nat × Nat)) (G : Nat → Nat) : Prop where
  out : w.ownsRow B 22 1 v l.length ((List.range l.length).map fun r => .slice (some ⟨G r, 0, none⟩) 2 2)
  inn : ∀ r x, l[r]? = some x → w.heap[G r]? = some (.cells #[.int .i64 (x.1 : Int), .int .i64 (x.2 : Int)] 2 (0, 0)) ∧ B ≤ G r
  apart : ∀ r s, r < s → s < l.length → G r ≠ G s
theorem OM.below {w w' : World} {B : Nat} {v : Value} {l : List (Nat × Nat)} {G : Nat → Nat} (h : OM w B v l G) (hb : Below w.heap.size w w') : OM w' B v l G :=
  ⟨Ge.row_below h.out hb, fun r x hx => ⟨Ge.blk_keep hb (h.inn r x hx).1, (h.inn r x hx).2⟩, h.apart⟩
theorem ty_ne : (2 : TypeId) ≠ 22 := by decide
/-- One more row. -/
theorem OM.step {w w2 w' : World} {B : Nat} {v v' : Value} {l : List (Nat × Nat)} {G : Nat → Nat} (h : OM w B v l G) (x : Nat × Nat) (hb : Below w.heap.size w w2) (hx : w2.heap[w.heap.size]? = some (.cells #[.int .i64 (x.1 : Int), .int .i64 (x.2 : Int)] 2 (0, 0))) (hB : B ≤ w.heap.size)
    (ho : w'.ownsRow B 22 1 v' (l.length + 1) (((List.range l.length).map fun r => Value.slice (some ⟨G r, 0, none⟩) 2 2) ++ [.slice (some ⟨w.heap.size, 0, none⟩) 2 2])) (hg : w2.grownBy w' v.ownBlock) : OM w' B v' (l ++ [x]) (fun r => if r = l.length then w.heap.size else G r) := by
  have h2 := h.below hb
  have keep : ∀ {q : Nat} {cs : Array Value}, w2.heap[q]? = some (.cells cs 2 (0, 0)) → w'.heap[q]? = some (.cells cs 2 (0, 0)) := fun {q} {cs} hq => (hg.block _ (lt_of_heap hq) (own_neT h2.out hq ty_ne)).trans hq
  refine ⟨?_, fun r y hy => ?_, fun r s hrs hs => ?_⟩
  · rw [List.length_append, List.length_singleton]
    have e : ((List.range (l.length + 1)).map fun r => Value.slice (some ⟨if r = l.length then w.heap.size else G r, 0, none⟩) 2 2) = ((List.range l.length).map fun r => Value.slice (some ⟨G r, 0, none⟩) 2 2) ++ [.slice (some ⟨w.heap.size, 0, none⟩) 2 2] := by
      rw [List.range_succ, List.map_append]
      congr 1
      · exact List.map_congr_left fun r hr => by rw [if_neg (by have := List.mem_range.1 hr; omega)]
      · simp
    rw [e]
    exact ho
  · by_cases e : r = l.length
    · subst e
      rw [List.getElem?_append_right (Nat.le_refl _), Nat.sub_self] at hy
      injection hy with hy
      subst hy
      rw [if_pos rfl]
      exact ⟨keep hx, hB⟩
    · have hr : r < l.length := by
        have := (List.getElem?_eq_some_iff.1 hy).1
        rw [List.length_append, List.length_singleton] at this
        omega
      rw [List.getElem?_append_left hr] at hy
      rw [if_neg e]
      exact ⟨keep (h2.inn r y hy).1, (h2.inn r y hy).2⟩
  · rw [List.length_append, List.length_singleton] at hs
    rw [if_neg (by omega : r ≠ l.length)]
    by_cases e : s = l.length
    · rw [if_pos e]
      intro q
      have hr : r < l.length := by omega
      have := lt_of_heap (h.inn r _ (List.getElem?_eq_getElem hr)).1
      omega
    · rw [if_neg e]
      exact h.apart r s hrs (by omega)
set_option maxRecDepth 100000 in
set_option maxHeartbeats 4000000 in
theorem s_open (g : Nat) (A : Option Addr) (n c : Nat) (N : Nat → ByteArray) (ms : Nat → Nat) (ds : Nat → Nat → Int) (Y : Option Addr) (k sc : Nat) (S : Nat → Int) (o : Int) (hz : Small n N ms k) (hP : PatP n N ms ds k S o) (w : World) (h : Boxed w g A n c N ms ds Y k sc S o) :
    Calls Try.prog 161 #[.pointer (some ⟨g, 0, none⟩)] w fun e w' => ∃ v G, e = .returned v ∧ Hid (OM w' w.heap.size v (ol ms n S k (sumN ms n)) G) ∧ Below w.heap.size w w' := by
  obtain ⟨_, hkk, _⟩ := hz.at
  obtain ⟨p1, p2, p3, p4⟩ := pat_in hP
  have HX := Lib.hid h
  have HM8 := Lib.hid p2
  obtain ⟨i0, hi0, hz0, hz1, hz2⟩ := info_parts info_rw
  have HI := Lib.hid (And.intro hi0 (And.intro hz0 (And.intro hz1 hz2)))
  have CT := Lib.hid (fun a e W hW => times g A n c N ms ds Y k sc S o a e hz W hW)
  have HT : Hid (∀ i q, i < n → q < ms i → (opB ms n S k (sumN ms i + q) = true ↔ tmN S (i : Int) (q : Int) k = 0) ∧ eg ms n (sumN ms i + q) = (i, q)) := Lib.hid fun i q hi hq => by
    have e := eg_at hi hq
    refine ⟨?_, e⟩
    have := mate_none (n := n) (ms := ms) (S := S) (j := k) (fun i hi => (hP.2.2 i hi).1) (i, q)
    unfold opB
    rw [e, Option.isNone_iff_eq_none]
    exact this
  have HOS : Hid (∀ t, ol ms n S k (t + 1) = if opB ms n S k t then ol ms n S k t ++ [eg ms n t] else ol ms n S k t) := Lib.hid fun t => rfl
  have HO0 : Hid (ol ms n S k 0 = []) := Lib.hid rfl
  have HLN : Hid (∀ t, (ol ms n S k t).length ≤ t) := Lib.hid fun t => by rw [ol_len]; exact cc_le _ _
  have HSE : Hid (∀ i, i < n → sumN ms i + ms i ≤ 80) := Lib.hid fun i hi => by
    have h1 := sum_le (ms := ms) (p := i) (fun j hj => (p2 j (by omega)).2)
    have h2 := (p2 i hi).2
    omega
  clear h hz hP p2 p3 p4 hi0 hz0 hz1 hz2
  generalize ol ms n S k = ls at *
  go_enter Try.func161, Try.ntmps161
  go_wp2_with fail
  have B0 := Lib.hid (below_box w (.cells #[] 22))
  have O0 : Hid (OM (w.alloc (.cells #[] 22)) w.heap.size (.slice (some ⟨w.heap.size, 0, none⟩) 0 0) (ls 0) (fun _ => 0)) := Lib.hid (by
    rw [HO0.out]
    exact ⟨⟨rfl, .inr ⟨_, 0, _, rfl, Nat.le_refl _, heap_alloc_new _ _, by simp, by unfold maxLen; omega, rfl, rfl⟩⟩, fun r x hx => by simp at hx, fun r s _ hs => by simp at hs⟩)
  go_loopw [3, 4, 5] (fun v i _ wr => ∃ (p : Nat) (u : Value) (G : Nat → Nat), p ≤ n ∧ u = v ∧ i = .int .i64 (p : Int) ∧ Hid (Below w.heap.size w wr) ∧ Hid (OM wr w.heap.size u (ls (sumN ms p)) G)) (fun _ i _ _ => n - (intOf i).toNat)
  case atStart => exact ⟨0, _, _, Nat.zero_le _, rfl, rfl, B0, O0⟩
  case round =>
    clear B0 O0
    obtain ⟨p, v, G, hp, rfl, rfl, HB, HO⟩ := hrel
    have e0 : (0 : Int) ≤ (p : Int) := Int.natCast_nonneg _
    have HXr := Lib.hid (HX.out.below HB.out)
    obtain ⟨x0, x1, x2⟩ := blk3 HXr.out.blk
    by_cases hlt : p < n
    · have e1 : (p : Int) < (n : Int) := by omega
      have hp1 : p + 1 ≤ n := by omega
      have hse := HSE.out p hlt
      have m8 := (HM8.out p hlt).2
      have HTp := Lib.hid (fun q hq => HT.out p q hlt hq)
      have HSS : Hid (ls (sumN ms (p + 1)) = ls (sumN ms p + ms p)) := Lib.hid rfl
      obtain ⟨As, cs, hR⟩ := HXr.out.pat.pcs
      generalize hmm : ms p = m at *
      generalize sumN ms p = s0 at *
      clear hR
      go_wp2_with fail
      clear x0 x1 x2
      go_loopw [3, 5] (fun v i wr => ∃ (r : Nat) (u : Value) (G : Nat → Nat), r ≤ m ∧ u = v ∧ i = .int .i64 (r : Int) ∧ Hid (Below w.heap.size w wr) ∧ Hid (OM wr w.heap.size u (ls (s0 + r)) G)) (fun _ i _ => m - (intOf i).toNat)
      case atStart => exact ⟨0, _, _, Nat.zero_le _, rfl, rfl, HB, HO⟩
      case round =>
        clear HB HO HXr
        obtain ⟨r, v, G, hr, rfl, rfl, HB, HO⟩ := hrel
        have e2 : (0 : Int) ≤ (r : Int) := Int.natCast_nonneg _
        have HXr := Lib.hid (HX.out.below HB.out)
        obtain ⟨x0, x1, x2⟩ := blk3 HXr.out.blk
        obtain ⟨As, cs, hR⟩ := HXr.out.pat.pcs
        obtain ⟨bp, op, rfl, hbp, hc⟩ := hR.out (by omega)
        have u1 := (hc p hlt).2
        rw [hmm] at u1
        clear hR hc
        by_cases hlr : r < m
        · have e3 : (r : Int) < (m : Int) := by omega
          have hr1 : r + 1 ≤ m := by omega
          obtain ⟨t1, t2⟩ := HTp.out r hlr
          have C := Lib.hid (CT.out (p : Int) (r : Int) wr HXr.out)
          have HLr := Lib.hid (HLN.out (s0 + r))
          have HOr := Lib.hid (HOS.out (s0 + r))
          rw [t2] at HOr
          generalize tmN S (p : Int) (r : Int) k = tm at C t1
          by_cases ht : tm = 0
          · have t3 := t1.2 ht
            subst ht
            rw [if_pos t3] at HOr
            clear t1 t2 t3
            go_wp2_with fail
            refine C.out.mono ?_
            rintro e w3 ⟨rfl, b3⟩
            have HB3 := Lib.hid (below_then HB.out b3)
            have HO3 := Lib.hid (HO.out.below b3)
            clear b3 x0 x1 x2 u1 C HB HO HXr
            have hll := HLr.out
            have hs3 := HB3.out.size
            generalize ls (s0 + r) = l at HO3 HOr hll
            have bb := below_then (below_box w3 (.cells #[.int .i64 (p : Int), .int .i64 (r : Int)] 2)) (below_box (w3.alloc (.cells #[.int .i64 (p : Int), .int .i64 (r : Int)] 2)) (.cells #[.slice (some ⟨w3.heap.size, 0, none⟩) 2 2] 22))
            have k1 := Ge.blk_keep (below_box (w3.alloc (.cells #[.int .i64 (p : Int), .int .i64 (r : Int)] 2)) (.cells #[.slice (some ⟨w3.heap.size, 0, none⟩) 2 2] 22)) (heap_alloc_new w3 (.cells #[.int .i64 (p : Int), .int .i64 (r : Int)] 2))
            have k2 := heap_alloc_new (w3.alloc (.cells #[.int .i64 (p : Int), .int .i64 (r : Int)] 2)) (.cells #[.slice (some ⟨w3.heap.size, 0, none⟩) 2 2] 22)
            rw [show (w3.alloc (.cells #[.int .i64 (p : Int), .int .i64 (r : Int)] 2)).heap.size = w3.heap.size + 1 by simp] at k2
            have HBB := Lib.hid bb
            have HK1 := Lib.hid k1
            have HK2 := Lib.hid k2
            clear bb k1 k2
            go_wp2_with (at_builtin; refine wpList_append_own _ rfl _ _ 61 rfl w.heap.size 22 i0 _ 1 24 Try.underlying61 HI.out.1 HI.out.2.1 HI.out.2.2.1 HI.out.2.2.2 rfl (by decide) _ _ _ rfl ((HO3.out.below HBB.out).out) ⟨w3.heap.size + 1, 0, none⟩ 1 1 [.slice (some ⟨w3.heap.size, 0, none⟩) 2 2] rfl rfl ?c1 ?c2 ?c3 ?c4 ?c5 ?_)
            case c1 =>
              intro q' u hu
              rw [Addr.add_lit, Nat.zero_add]
              exact (cell_of_row _ _ q' _ _ _ HK2.out).trans (by simpa using hu)
            case c2 => simp [Value.oneCell']
            case c3 => unfold maxLen; omega
            case c4 => omega
            case c5 => first | omega | (simp <;> omega)
            intro v' w6 hown2 hgrow _
            have HO6 := Lib.hid (HO3.out.step (p, r) HBB.out HK1.out hs3 hown2 hgrow)
            rw [← HOr.out] at HO6
            have HB6 := Lib.hid ((HB3.out.trans (HBB.out.mono hs3)).grown hgrow (by have := HBB.out.size; omega) fun g hg => ((HO3.out.below HBB.out).out.lt g hg).1)
            clear hown2 hgrow HK1 HK2 HBB
            go_wp2_with fail
            go_roundw
            case rel => exact ⟨r + 1, _, _, hr1, rfl, by go_num, HB6, HO6⟩
            case measure => simp [intOf]; omega
          · have t3 : ¬ opB ms n S k (s0 + r) = true := fun q => ht (t1.1 q)
            rw [if_neg t3] at HOr
            have htb : ((tm : Int) == 0) = false := by
              have : ¬ (tm : Int) = 0 := by omega
              simpa using this
            clear t1 t2 t3
            go_wp2_with fail
            refine C.out.mono ?_
            rintro e w3 ⟨rfl, b3⟩
            have HB3 := Lib.hid (below_then HB.out b3)
            have HO3 := Lib.hid (HO.out.below b3)
            rw [← HOr.out] at HO3
            clear b3 x0 x1 x2 u1 C HB HO HXr
            go_wp2_with fail
            go_roundw
            case rel => exact ⟨r + 1, _, _, hr1, rfl, by go_num, HB3, HO3⟩
            case measure => simp [intOf]; omega
        · have hrm : r = m := by omega
          have e3 : ¬ (r : Int) < (m : Int) := by omega
          rw [hrm, ← HSS.out] at HO
          go_wp2_with fail
          go_roundw
          case rel => exact ⟨p + 1, _, _, hp1, rfl, by go_num, HB, HO⟩
          case measure => simp [intOf]; omega
    · have hpn : p = n := by omega
      have e1 : ¬ (p : Int) < (n : Int) := by omega
      rw [hpn] at HO
      clear hpn
      go_wp2_with fail
      go_ret
      exact ⟨v, rfl, ⟨G, HO⟩, HB.out⟩
end Go.Proofs.Ytpmmfalpcooenab.Vo
