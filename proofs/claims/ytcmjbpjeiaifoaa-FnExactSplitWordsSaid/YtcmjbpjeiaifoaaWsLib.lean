/- SplitWords: the spec's walk. -/
import Derived.Test.YtcmjbpjeiaifoaaStLib
import Derived.Laws.OwnMore
namespace Go.Proofs.Ytcmjbpjeiaifoaa.Ws
open Go.RowKit Ba St
set_option linter.unusedVariables false

/-- The words of a text. -/
def wrd (L : List UInt8) : List (List UInt8) := (spl 32 L).filter fun p => !p.isEmpty
theorem strs_get {P : List (List UInt8)} {j : Nat} (h : j < P.length) : (strs P)[j]? = some (.string ⟨(P[j]).toArray⟩) := by
  unfold strs
  rw [List.getElem?_map, List.getElem?_eq_getElem h]
  rfl
theorem row_mono {w : World} {base base' : Nat} {e : TypeId} {size n : Nat} {v : Value} {xs : List Value} (h : w.ownsRow base e size v n xs) (hb : base' ≤ base) : w.ownsRow base' e size v n xs :=
  ⟨h.1, by
    rcases h.2 with h0 | ⟨g, cap, cur, hv, hbg, r⟩
    · exact .inl h0
    · exact .inr ⟨g, cap, cur, hv, Nat.le_trans hb hbg, r⟩⟩
set_option maxRecDepth 100000 in
set_option maxHeartbeats 2000000 in
theorem spec_words (s : ByteArray) (hs : s.size ≤ 1048576) (w : World) :
    Calls Try.prog 31 #[.string s] w fun e w' => ∃ v, e = .returned v ∧ Hid (w'.ownsRow w.heap.size 9 1 v (wrd s.data.toList).length (strs (wrd s.data.toList))) ∧ Below w.heap.size w w' := by
  obtain ⟨i0, hi0, hz0, hz1, hz2⟩ := info_parts info_str
  have HI := Lib.hid (And.intro hi0 (And.intro hz0 (And.intro hz1 hz2)))
  clear hi0 hz0 hz1 hz2
  have SP := split_any s 32 hs w
  rw [show (((32 : UInt8).toNat : Nat) : Int) = 32 by decide] at SP
  have hl : (spl 32 s.data.toList).length ≤ 1048577 := by
    have := spl_len 32 s.data.toList
    simp at this
    omega
  have hp : 0 < (spl 32 s.data.toList).length := List.length_pos_iff.2 (spl_ne _ _)
  unfold wrd
  generalize spl 32 s.data.toList = P at SP hl hp ⊢
  have SP := Lib.hid SP
  clear hs
  go_enter Try.func31, Try.ntmps31
  go_wp2_with fail
  refine SP.out.mono ?_
  rintro e w2 ⟨v, rfl, HR, b2⟩
  obtain ⟨g, cap, rfl, _, hgl⟩ := HR.out.form hp
  have HB2 := Lib.hid b2
  have CP : Hid (∀ k (h : k < P.length), w2.cell? ⟨g, k, none⟩ = some (.string ⟨(P[k]).toArray⟩)) := Lib.hid fun k hk => (HR.out.cellAt k (by omega)).trans (strs_get hk)
  have hsz := HB2.out.size
  clear b2 HR SP
  go_wp2_with fail
  go_loopw [4, 5] (fun o i wr => ∃ (k : Nat) (v : Value), k ≤ P.length ∧ v = o ∧ i = .int .i64 (k : Int) ∧ Hid (Below w2.heap.size w2 wr) ∧ Hid (wr.ownsRow w2.heap.size 9 1 v ((P.take k).filter fun p => !p.isEmpty).length (strs ((P.take k).filter fun p => !p.isEmpty)))) (fun _ i _ => P.length - (intOf i).toNat)
  case atStart => exact ⟨0, _, Nat.zero_le _, rfl, rfl, Lib.hid (below_box _ _), Lib.hid (World.ownsRow_made w2 #[] 0 (Nat.le_refl _) (by simp [maxLen]) rfl)⟩
  case round =>
    obtain ⟨k, v, hk, rfl, rfl, HB, HO⟩ := hrel
    by_cases hlt : k < P.length
    · have ck := (HB.out.cell (p := ⟨g, k, none⟩) hgl).trans (CP.out k hlt)
      have HT : Hid ((P.take (k + 1)).filter (fun p => !p.isEmpty) = (P.take k).filter (fun p => !p.isEmpty) ++ (if P[k].isEmpty then [] else [P[k]])) := Lib.hid (by
        rw [List.take_succ_eq_append_getElem hlt, List.filter_append]
        congr 1
        cases h : P[k].isEmpty <;> simp [List.filter, h])
      have hol : ((P.take k).filter fun p => !p.isEmpty).length ≤ 1048577 := by
        have h1 := List.length_filter_le (fun p : List UInt8 => !p.isEmpty) (P.take k)
        have h2 := List.length_take_le k P
        omega
      have hk1 : (k : Int) < (P.length : Int) := by omega
      have hzr := HB.out.size
      generalize hq : P[k] = q at ck HT
      generalize hout : (P.take k).filter (fun p => !p.isEmpty) = out at HO HT hol
      by_cases he : q = []
      · subst he
        have HT' : Hid ((P.take (k + 1)).filter (fun p => !p.isEmpty) = out) := Lib.hid (by rw [HT.out]; simp)
        clear hq hout HT
        go_wp2_with fail
        go_roundw
        case rel => exact ⟨k + 1, v, by omega, rfl, by go_num, HB, Lib.hid (by rw [HT'.out]; exact HO.out)⟩
        case measure => simp [intOf]; omega
      · have h5 : (q == []) = false := by simpa using he
        have h6 : q.isEmpty = false := by simpa using he
        have HT' : Hid ((P.take (k + 1)).filter (fun p => !p.isEmpty) = out ++ [q]) := Lib.hid (by rw [HT.out, h6]; rfl)
        clear hq hout HT
        go_wp2_with (at_builtin; refine wpList_append_own _ rfl (.tmp 20) (.tmp 25) 51 rfl w2.heap.size 9 i0 _ 1 16 Try.underlying51 HI.out.1 HI.out.2.1 HI.out.2.2.1 HI.out.2.2.2 rfl (by decide) v out.length (strs out) rfl (row_below HO.out (below_box _ _)) ⟨wr.heap.size, 0, none⟩ 1 1 [.string ⟨q.toArray⟩] rfl rfl ?c1 ?c2 ?c3 ?c4 ?c5 ?_)
        case c1 => exact fun j u hu => by rw [Addr.add_lit, Nat.zero_add]; exact cell_one _ _ _ j u hu
        case c2 => simp [Value.oneCell']
        case c3 => unfold maxLen; omega
        case c4 => omega
        case c5 => simp; omega
        intro v' w5 hown hgrow _
        have HQ5 := Lib.hid ((HB.out.alloc hzr _).grown hgrow (by simp; omega) fun g hg => (HO.out.lt g hg).1)
        have HO5 : Hid (w5.ownsRow w2.heap.size 9 1 v' (out ++ [q]).length (strs (out ++ [q]))) := Lib.hid (by rw [strs_snoc]; simpa using hown)
        clear hown hgrow ck
        go_wp2_with fail
        go_roundw
        case rel => exact ⟨k + 1, v', by omega, rfl, by go_num, HQ5, Lib.hid (by rw [HT'.out]; exact HO5.out)⟩
        case measure => simp [intOf]; omega
    · obtain rfl : k = P.length := by omega
      have HF : Hid (wr.ownsRow w.heap.size 9 1 v (P.filter fun p => !p.isEmpty).length (strs (P.filter fun p => !p.isEmpty))) := Lib.hid (by
        have := HO.out
        rw [List.take_length] at this
        exact row_mono this hsz)
      have HBB := Lib.hid (below_then HB2.out HB.out)
      go_wp2_with fail
      go_ret
      exact ⟨_, rfl, HF, HBB.out⟩
end Go.Proofs.Ytcmjbpjeiaifoaa.Ws
