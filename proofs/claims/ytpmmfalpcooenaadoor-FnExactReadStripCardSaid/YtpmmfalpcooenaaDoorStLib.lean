/- Texts split at a byte: plain, and the spec's. -/
import Derived.Test.YtpmmfalpcooenaaDoorBaLib
import Derived.Deep.AppendLies
import Derived.Deep.RegionHeld3
import Derived.OwnWalk
import Derived.Below
import Derived.Lib.Hide
import Derived.Lib.IndexBytes
namespace Go.Proofs.YtpmmfalpcooenaaDoor.St
open Go.RowKit Ba
set_option linter.unusedVariables false

/-- The parts of a text between the bytes c. -/
def spl (c : UInt8) : List UInt8 → List (List UInt8)
  | [] => [[]]
  | x :: r => if x = c then [] :: spl c r else match spl c r with
    | p :: ps => (x :: p) :: ps
    | [] => [[x]]
theorem spl_ne (c : UInt8) (l : List UInt8) : spl c l ≠ [] := by
  cases l with
  | nil => simp [spl]
  | cons x r =>
    unfold spl
    split
    · simp
    · split <;> simp
theorem spl_hit (c : UInt8) (a r : List UInt8) (h : ∀ x ∈ a, x ≠ c) : spl c (a ++ c :: r) = a :: spl c r := by
  induction a with
  | nil => simp [spl]
  | cons x a ih =>
    have hx := h x (by simp)
    have ih' := ih fun y hy => h y (by simp [hy])
    rw [List.cons_append, spl, if_neg hx, ih']
theorem spl_none (c : UInt8) (a : List UInt8) (h : ∀ x ∈ a, x ≠ c) : spl c a = [a] := by
  induction a with
  | nil => simp [spl]
  | cons x a ih =>
    have hx := h x (by simp)
    have ih' := ih fun y hy => h y (by simp [hy])
    rw [spl, if_neg hx, ih']
theorem spl_len (c : UInt8) (l : List UInt8) : (spl c l).length ≤ l.length + 1 := by
  induction l with
  | nil => simp [spl]
  | cons x r ih =>
    unfold spl
    split
    · simpa using ih
    · split
      · rename_i p ps h
        rw [h] at ih
        simp at ih ⊢
        omega
      · simp
/-- The parts as values. -/
def strs (l : List (List UInt8)) : List Value := l.map fun p => .string ⟨p.toArray⟩
theorem strs_snoc (l : List (List UInt8)) (p : List UInt8) : strs (l ++ [p]) = strs l ++ [.string ⟨p.toArray⟩] := by simp [strs]
theorem strs_len (l : List (List UInt8)) : (strs l).length = l.length := by simp [strs]
theorem ext_eq (s : ByteArray) (j k : Nat) : s.extract j k = ⟨((s.data.toList.drop j).take (k - j)).toArray⟩ := by
  apply ByteArray.ext
  rw [ByteArray.data_extract]
  apply Array.ext'
  rw [Array.toList_extract, List.extract_eq_take_drop]
theorem row_below {w w' : World} {base : Nat} {e : TypeId} {size n : Nat} {v : Value} {xs : List Value} (h : w.ownsRow base e size v n xs) (hb : Below w.heap.size w w') : w'.ownsRow base e size v n xs :=
  ⟨h.1, by
    rcases h.2 with h0 | ⟨g, cap, cur, hv, hbg, hh, r⟩
    · exact .inl h0
    · exact .inr ⟨g, cap, cur, hv, hbg, (hb.block g (lt_of_heap hh)).trans hh, r⟩⟩
theorem cell_one (w : World) (v : Value) (t : TypeId) : ∀ j u, [v][j]? = some u → (w.alloc (.cells #[v] t)).cell? ⟨w.heap.size, j, none⟩ = some u := fun j u h => by
  rw [cell_of_row _ _ j _ _ (0, 0) (heap_alloc_new _ _)]
  cases j with
  | zero => simpa using h
  | succ j => simp at h
theorem info_str : (Tryd.prog.info? 9).map (fun i => (i.zero, i.size, i.bytes)) = some (some (.string ByteArray.empty), 1, 16) := by kernel_rfl
/-- Parts behind k bytes, from byte j on not yet taken. -/
theorem step_hit {c : UInt8} {L : List UInt8} {j k : Nat} (hj : j ≤ k) (hk : k < L.length) (hn : ∀ x ∈ (L.drop j).take (k - j), x ≠ c) (hc : L[k]? = some c) {out : List (List UInt8)} (h : spl c L = out ++ spl c (L.drop j)) :
    spl c L = (out ++ [(L.drop j).take (k - j)]) ++ spl c (L.drop (k + 1)) := by
  have e : L.drop j = (L.drop j).take (k - j) ++ c :: L.drop (k + 1) := by
    conv => lhs; rw [← List.take_append_drop (k - j) (L.drop j)]
    rw [List.drop_drop, show j + (k - j) = k by omega, List.drop_eq_getElem_cons hk, show L[k] = c by rw [List.getElem?_eq_getElem hk] at hc; exact Option.some.inj hc]
  rw [h, List.append_assoc]
  conv => lhs; rw [e, spl_hit _ _ _ hn]
  rfl
theorem step_miss {c : UInt8} {L : List UInt8} {j k : Nat} (hj : j ≤ k) (hk : k < L.length) (hn : ∀ x ∈ (L.drop j).take (k - j), x ≠ c) (hc : ¬ L[k]? = some c) : ∀ x ∈ (L.drop j).take (k + 1 - j), x ≠ c := by
  intro x hx
  rw [show k + 1 - j = (k - j) + 1 by omega, List.take_succ_eq_append_getElem (by simp; omega)] at hx
  rcases List.mem_append.1 hx with h | h
  · exact hn x h
  · simp at h
    rw [h]
    intro h'
    refine hc ?_
    rw [List.getElem?_eq_getElem hk]
    simpa [show j + (k - j) = k by omega] using h'
theorem step_end {c : UInt8} {L : List UInt8} {j k : Nat} (hk : L.length ≤ k) (hn : ∀ x ∈ (L.drop j).take (k - j), x ≠ c) {out : List (List UInt8)} (h : spl c L = out ++ spl c (L.drop j)) : spl c L = out ++ [L.drop j] := by
  rw [List.take_of_length_le (by simp; omega)] at hn
  rw [h, spl_none _ _ hn]

set_option maxRecDepth 100000 in
set_option maxHeartbeats 1000000 in
theorem split_any (s : ByteArray) (c : UInt8) (hs : s.size ≤ 1048576) (w : World) :
    Calls Tryd.prog 76 #[.string s, .int .u8 (c.toNat : Int)] w fun e w' => ∃ v, e = .returned v ∧ Hid (w'.ownsRow w.heap.size 9 1 v (spl c s.data.toList).length (strs (spl c s.data.toList))) ∧ Below w.heap.size w w' := by
  obtain ⟨i0, hi0, hz0, hz1, hz2⟩ := info_parts info_str
  have HI := Lib.hid (And.intro hi0 (And.intro hz0 (And.intro hz1 hz2)))
  clear hi0 hz0 hz1 hz2
  have HL : s.data.toList.length = s.size := by simp
  have HQ : Hid (∀ (k : Nat) (h : k < s.size), s.data.toList[k]? = some (s[k]'h)) := Lib.hid fun k h => by
    rw [List.getElem?_eq_getElem (by simpa using h)]
    rfl
  have HE := Lib.hid fun j k => ext_eq s j k
  have HLen := Lib.hid (spl_len c s.data.toList)
  generalize s.data.toList = L at HL HQ HE HLen ⊢
  go_enter Tryd.func76, Tryd.ntmps76
  go_wp2_with fail
  go_loopw [5, 6, 7] (fun o f i wr => ∃ (k j : Nat) (v : Value) (out : List (List UInt8)), k ≤ s.size ∧ j ≤ k ∧ v = o ∧ f = .int .i64 (j : Int) ∧ i = .int .i64 (k : Int) ∧ Hid (Below w.heap.size w wr) ∧ Hid (wr.ownsRow w.heap.size 9 1 v out.length (strs out)) ∧ Hid (spl c L = out ++ spl c (L.drop j)) ∧ Hid (∀ x ∈ (L.drop j).take (k - j), x ≠ c)) (fun _ _ i _ => s.size - (intOf i).toNat)
  case atStart => exact ⟨0, 0, _, [], Nat.zero_le _, Nat.le_refl _, rfl, rfl, rfl, Lib.hid (below_box _ _), Lib.hid (World.ownsRow_made w #[] 0 (Nat.le_refl _) (by simp [maxLen]) rfl), Lib.hid (by simp), Lib.hid (by simp)⟩
  case round =>
    obtain ⟨k, j, v, out, hk, hj, rfl, rfl, rfl, HB, HO, HS, HN⟩ := hrel
    have hlen : out.length + 1 ≤ s.size + 1 := by
      have h1 := HLen.out
      rw [HS.out, List.length_append] at h1
      have h2 := List.length_pos_iff.2 (spl_ne c (L.drop j))
      omega
    by_cases hlt : k < s.size
    · have hq := HQ.out k hlt
      by_cases hc : s[k]'hlt = c
      · have hcc : (((s[k]'hlt).toNat : Int) == (c.toNat : Int)) = true := by simp [hc]
        have HS' := Lib.hid (step_hit hj (by omega) HN.out (hq.trans (congrArg some hc)) HS.out)
        clear hc hq
        have hz := HB.out.size
        go_wp2_with (at_builtin; refine wpList_append_own _ rfl (.tmp 20) (.tmp 25) 98 rfl w.heap.size 9 i0 _ 1 16 Tryd.underlying98 HI.out.1 HI.out.2.1 HI.out.2.2.1 HI.out.2.2.2 rfl (by decide) v out.length (strs out) rfl ((row_below HO.out (below_box _ _))) ⟨wr.heap.size, 0, none⟩ 1 1 [.string (s.extract j k)] rfl rfl ?c1 ?c2 ?c3 ?c4 ?c5 ?_)
        case c1 => exact fun j u hu => by rw [Addr.add_lit, Nat.zero_add]; exact cell_one _ _ _ j u hu
        case c2 => simp [Value.oneCell']
        case c3 => unfold maxLen; omega
        case c4 => omega
        case c5 => simp; omega
        intro v' w5 hown hgrow _
        have HQ5 := Lib.hid ((HB.out.alloc hz _).grown hgrow (by simp; omega) fun g hg => (HO.out.lt g hg).1)
        have HO5 : Hid (w5.ownsRow w.heap.size 9 1 v' (out ++ [(L.drop j).take (k - j)]).length (strs (out ++ [(L.drop j).take (k - j)]))) := Lib.hid (by rw [strs_snoc, ← HE.out j k]; simpa using hown)
        clear hown hgrow
        go_wp2_with fail
        go_roundw
        case rel => exact ⟨k + 1, k + 1, v', out ++ [(L.drop j).take (k - j)], by omega, Nat.le_refl _, rfl, by go_num, by go_num, HQ5, HO5, HS', Lib.hid (by simp)⟩
        case measure => simp [intOf]; omega
      · have hcc : (((s[k]'hlt).toNat : Int) == (c.toNat : Int)) = false := by
          simp
          intro h
          exact hc (UInt8.toNat_inj.1 (by exact_mod_cast h))
        have HN' := Lib.hid (step_miss hj (by omega) HN.out (fun h => hc (Option.some.inj (hq.symm.trans h))))
        clear hc hq
        go_wp2_with fail
        go_roundw
        case rel => exact ⟨k + 1, j, v, out, by omega, by omega, rfl, rfl, by go_num, HB, HO, HS, HN'⟩
        case measure => simp [intOf]; omega
    · obtain rfl : k = s.size := by omega
      have HS' := Lib.hid (step_end (by omega) HN.out HS.out)
      have hz := HB.out.size
      go_wp2_with (at_builtin; refine wpList_append_own _ rfl (.tmp 29) (.tmp 33) 98 rfl w.heap.size 9 i0 _ 1 16 Tryd.underlying98 HI.out.1 HI.out.2.1 HI.out.2.2.1 HI.out.2.2.2 rfl (by decide) v out.length (strs out) rfl ((row_below HO.out (below_box _ _))) ⟨wr.heap.size, 0, none⟩ 1 1 [.string (s.extract j s.size)] rfl rfl ?d1 ?d2 ?d3 ?d4 ?d5 ?_)
      case d1 => exact fun j u hu => by rw [Addr.add_lit, Nat.zero_add]; exact cell_one _ _ _ j u hu
      case d2 => simp [Value.oneCell']
      case d3 => unfold maxLen; omega
      case d4 => omega
      case d5 => simp; omega
      intro v' w5 hown hgrow _
      have HQ5 := Lib.hid ((HB.out.alloc hz _).grown hgrow (by simp; omega) fun g hg => (HO.out.lt g hg).1)
      have HO5 : Hid (w5.ownsRow w.heap.size 9 1 v' (spl c L).length (strs (spl c L))) := Lib.hid (by
        have he := HE.out j s.size
        rw [List.take_of_length_le (by simp; omega)] at he
        rw [HS'.out, strs_snoc, ← he]
        simpa using hown)
      clear hown hgrow
      go_wp2_with fail
      go_ret
      exact ⟨_, rfl, HO5, HQ5.out⟩
end Go.Proofs.YtpmmfalpcooenaaDoor.St
