/- The program's reading of a decimal form. -/
import Derived.Test.YtcnbnpeilkdfiaaDoorRsLib
import Derived.Test.YtcnbnpeilkdfiaaDoorTbLib
import Derived.Lib.SmallJoins
namespace Go.Proofs.YtcnbnpeilkdfiaaDoor.Ri
open Go.RowKit Go.Sort Go.Shelf Ba Go.Lib Dc Ds Rn Rs Tb

theorem parse_of_rd {L : List UInt8} (h : rdB L = true) : parseIntB 64 L = .ok (rdV L) := by
  obtain ⟨h1, h2, h3⟩ := rd_is h
  have := parse_itoa (rdV L) h2 h3
  rwa [← h1] at this
theorem no_rd {L : List UInt8} (h : ∀ v, parseIntB 64 L = .ok v → ¬ (-999999999999999999 ≤ v ∧ v ≤ 999999999999999999 ∧ itoa v = L)) : rdB L = false ∧ rdN L = 0 := by
  have hb : rdB L = false := by
    cases hr : rdB L with
    | false => rfl
    | true =>
      obtain ⟨h1, h2, h3⟩ := rd_is hr
      exact absurd ⟨h2, h3, h1.symm⟩ (h _ (parse_of_rd hr))
  exact ⟨hb, by unfold rdN; rw [hb]; rfl⟩
theorem yes_rd {L : List UInt8} {v : Int} (h0 : -999999999999999999 ≤ v) (h1 : v ≤ 999999999999999999) (h : itoa v = L) : rdB L = true ∧ rdN L = v := by
  subst h
  obtain ⟨a, b⟩ := is_rd h0 h1
  exact ⟨a, by unfold rdN; rw [a]; exact b⟩
/-- A variable that holds an error. -/
def ErrAt (g : Nat) (w : World) : Prop := ∃ ev, w.cell? ⟨g, 0, none⟩ = some ev ∧ (ev = .nilIface ∨ ∃ te pe, ev = .iface te pe)
theorem ErrAt.below {g : Nat} {w w' : World} (h : ErrAt g w) (hb : Below w.heap.size w w') : ErrAt g w' := by
  obtain ⟨ev, hc, he⟩ := h
  exact ⟨ev, (hb.cell (p := ⟨g, 0, none⟩) (World.block_lt_of_cell? w _ hc)).trans hc, he⟩
/-- What the reading of a number wants of the package-level variables. -/
def Vars (w : World) : Prop := Tab w ∧ ErrAt 5 w ∧ ErrAt 6 w
theorem Vars.below {w w' : World} (h : Vars w) (hb : Below w.heap.size w w') : Vars w' := ⟨h.1.below hb, h.2.1.below hb, h.2.2.below hb⟩
theorem below_or {w w' : World} (h : w' = w ∨ ∃ t, w' = Lib.bytesWorld w 5 t) : Below w.heap.size w w' := by
  rcases h with rfl | ⟨t, rfl⟩
  · exact Below.refl _ _
  · exact Go.Joins.below_bytesWorld _ _ _ _ (Nat.le_refl _)
set_option maxHeartbeats 1000000 in
set_option maxRecDepth 100000 in
theorem read_any (s : ByteArray) (hs : s.size ≤ 140737488355328) (w : World) (hV : Vars w) : Calls Tryd.prog 63 #[.string s] w fun e w' => e = .returned (.tuple #[.int .i64 (rdN s.data.toList), .bool (rdB s.data.toList)]) ∧ Below w.heap.size w w' := by
  obtain ⟨hT, ⟨e1, c1, f1⟩, ⟨e2, c2, f2⟩⟩ := hV
  have HT := Lib.hid hT
  cases hp : parseIntB 64 s.data.toList with
  | «syntax» =>
    have C := Lib.hid (Tryd.strconv_ParseInt_10_at64_syntax s (by omega) hp e1 w c1 f1)
    have HR := Lib.hid (no_rd (L := s.data.toList) fun v hv => by rw [hp] at hv; cases hv)
    clear hp c1 c2 f1 f2 hT hs
    go_enter Tryd.func63, Tryd.ntmps63
    go_wp2_with fail
    refine C.out.mono ?_
    rintro e w1 ⟨N, rfl, hN, hb, b1⟩
    have HB := Lib.hid b1
    clear hb b1
    go_wp2_with fail
    go_ret2
    exact ⟨ret_rd HR.out.2.symm HR.out.1.symm, HB.out⟩
  | range =>
    have C := Lib.hid (Tryd.strconv_ParseInt_10_at64_range s (by omega) hp e2 w c2 f2)
    have HR := Lib.hid (no_rd (L := s.data.toList) fun v hv => by rw [hp] at hv; cases hv)
    clear hp c1 c2 f1 f2 hT hs
    generalize Lib.intSat 64 s.data.toList = sat at C
    go_enter Tryd.func63, Tryd.ntmps63
    go_wp2_with fail
    refine C.out.mono ?_
    rintro e w1 ⟨N, rfl, hN, hb, b1⟩
    have HB := Lib.hid b1
    clear hb b1
    go_wp2_with fail
    go_ret2
    exact ⟨ret_rd HR.out.2.symm HR.out.1.symm, HB.out⟩
  | ok v =>
    have C := Lib.hid (Tryd.strconv_ParseInt_10_at64_ok s (by omega) v hp w)
    have HNO := Lib.hid fun (hn : ¬ (-999999999999999999 ≤ v ∧ v ≤ 999999999999999999 ∧ itoa v = s.data.toList)) => no_rd (L := s.data.toList) fun u hu => by rw [hp] at hu; cases hu; exact hn
    clear hp c1 c2 f1 f2 hT hs
    by_cases hlo : v < -999999999999999999
    · have HR := Lib.hid (HNO.out (by omega))
      clear HNO
      go_enter Tryd.func63, Tryd.ntmps63
      go_wp2_with fail
      refine C.out.mono ?_
      rintro e w1 ⟨rfl, hw1⟩
      have HB := Lib.hid (below_or hw1)
      clear hw1
      go_wp2_with fail
      go_ret2
      exact ⟨ret_rd HR.out.2.symm HR.out.1.symm, HB.out⟩
    by_cases hhi : 999999999999999999 < v
    · have HR := Lib.hid (HNO.out (by omega))
      have hlo' : -999999999999999999 ≤ v := by omega
      clear HNO hlo
      go_enter Tryd.func63, Tryd.ntmps63
      go_wp2_with fail
      refine C.out.mono ?_
      rintro e w1 ⟨rfl, hw1⟩
      have HB := Lib.hid (below_or hw1)
      clear hw1
      go_wp2_with fail
      go_ret2
      exact ⟨ret_rd HR.out.2.symm HR.out.1.symm, HB.out⟩
    have b0 : -999999999999999999 ≤ v := by omega
    have b1 : v ≤ 999999999999999999 := by omega
    clear hlo hhi
    have DC := Lib.hid fun w ht => idec v (by omega) (by omega) w ht
    by_cases hq : itoa v = s.data.toList
    · have HR := Lib.hid (yes_rd b0 b1 hq)
      rw [mk_eq s hq] at DC
      clear HNO hq
      go_enter Tryd.func63, Tryd.ntmps63
      go_wp2_with fail
      refine C.out.mono ?_
      rintro e w1 ⟨rfl, hw1⟩
      have HB := Lib.hid (below_or hw1)
      have HT1 := Lib.hid (HT.out.below HB.out)
      clear hw1
      go_wp2_with fail
      refine (DC.out _ HT1.out).mono ?_
      rintro e w2 ⟨rfl, b2⟩
      have HB2 := Lib.hid (below_then HB.out b2)
      clear b2
      go_wp2_with fail
      go_ret2
      exact ⟨ret_rd HR.out.2.symm HR.out.1.symm, HB2.out⟩
    · have HR := Lib.hid (HNO.out fun h => hq h.2.2)
      have hq' := mk_ne s hq
      clear HNO hq
      generalize (⟨(itoa v).toArray⟩ : ByteArray) = q at DC hq'
      go_enter Tryd.func63, Tryd.ntmps63
      go_wp2_with fail
      refine C.out.mono ?_
      rintro e w1 ⟨rfl, hw1⟩
      have HB := Lib.hid (below_or hw1)
      have HT1 := Lib.hid (HT.out.below HB.out)
      clear hw1
      go_wp2_with fail
      refine (DC.out _ HT1.out).mono ?_
      rintro e w2 ⟨rfl, b2⟩
      have HB2 := Lib.hid (below_then HB.out b2)
      clear b2
      go_wp2_with fail
      go_ret2
      exact ⟨ret_rd HR.out.2.symm HR.out.1.symm, HB2.out⟩
end Go.Proofs.YtcnbnpeilkdfiaaDoor.Ri
