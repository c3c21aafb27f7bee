/- ReadLast: both functions, the walk of the law. -/
import Derived.Test.YtggbdpamjjgakabDoorRlLib
import Derived.Test.YtggbdpamjjgakabDoorRjLib
import Derived.Test.YtggbdpamjjgakabDoorLaLib
namespace Go.Proofs.YtggbdpamjjgakabDoor.Rx
open Go.RowKit Go.Lib Ba St Rn Rs Ri Rf Rg Rj Rl La
set_option linter.unusedVariables false

/-- The numbers that are read. -/
def gn (L : List UInt8) (j : Nat) : Int := if j = 4 then rdN (ht L) else rfN (fo L) j
/-- The text reads as a last. -/
noncomputable def rlB (L : List UInt8) : Bool := rfB (fo L) && (rdB (ht L) && laB ⟨(nm L).toArray⟩ (gn L))
noncomputable def rlS (L : List UInt8) : ByteArray := if rlB L then ⟨(nm L).toArray⟩ else ⟨#[]⟩
noncomputable def rlF (L : List UInt8) (j : Nat) : Int := if rlB L then gn L j else 0
theorem rl_no {L : List UInt8} (h : rlB L = false) : rlB L = false ∧ rlS L = ⟨#[]⟩ ∧ ∀ j, rlF L j = 0 := ⟨h, by unfold rlS; rw [h]; rfl, fun j => by unfold rlF; rw [h]; rfl⟩
theorem rl_yes {L : List UInt8} (h : rlB L = true) : rlB L = true ∧ rlS L = ⟨(nm L).toArray⟩ ∧ ∀ j, rlF L j = gn L j := ⟨h, by unfold rlS; rw [h]; rfl, fun j => by unfold rlF; rw [h]; rfl⟩
theorem rl_shape {L : List UInt8} (h : ¬ Shape L) : rlB L = false := by
  unfold rlB
  cases h1 : rfB (fo L)
  · rfl
  · cases h2 : rdB (ht L)
    · rfl
    · exact absurd (cuts_shape (rf_blank h1) h2) h
theorem cut_len (s sep : List UInt8) : (cut s sep).1.length ≤ s.length ∧ (cut s sep).2.1.length ≤ s.length := by
  rcases cut_inv s sep with h | ⟨a, r, h, he⟩
  · rw [h]; exact ⟨Nat.le_refl _, Nat.zero_le _⟩
  · rw [h]
    have := congrArg List.length he
    simp at this
    exact ⟨by show a.length ≤ _; omega, by show r.length ≤ _; omega⟩
theorem parts_len (L : List UInt8) : (nm L).length ≤ L.length ∧ (rs L).length ≤ L.length ∧ (fo L).length ≤ L.length ∧ (ht L).length ≤ L.length := by
  obtain ⟨h1, h2⟩ := cut_len L [32]
  obtain ⟨h3, h4⟩ := cut_len (rs L) (32 :: (pch ++ [32]))
  exact ⟨h1, h2, Nat.le_trans h3 h2, Nat.le_trans h4 h2⟩
theorem cut1 (s : ByteArray) (hs : s.size ≤ 1048576) (w : World) (hM : MaxAt w) : Calls Tryd.prog 53 #[.string s, .string ⟨#[32]⟩] w fun e w' => ∃ b, e = .returned (.tuple #[.string ⟨(nm s.data.toList).toArray⟩, .string ⟨(rs s.data.toList).toArray⟩, .bool b]) ∧ Below w.heap.size w w' := by
  obtain ⟨m, hm⟩ := hM
  refine (Tryd.strings_Cut s ⟨#[32]⟩ m w (by omega) hm).mono ?_
  rintro e w' ⟨rfl, n, rfl⟩
  exact ⟨_, rfl, ⟨rfl, rfl, rfl, Nat.le_refl _, fun _ _ => rfl⟩⟩
theorem cut2 (L : List UInt8) (hs : L.length ≤ 1048576) (w : World) (hM : MaxAt w) : Calls Tryd.prog 53 #[.string ⟨(rs L).toArray⟩, .string ⟨#[32, 112, 105, 116, 99, 104, 32]⟩] w fun e w' => ∃ b, e = .returned (.tuple #[.string ⟨(fo L).toArray⟩, .string ⟨(ht L).toArray⟩, .bool b]) ∧ Below w.heap.size w w' := by
  obtain ⟨m, hm⟩ := hM
  have hl := (parts_len L).2.1
  refine (Tryd.strings_Cut ⟨(rs L).toArray⟩ ⟨#[32, 112, 105, 116, 99, 104, 32]⟩ m w (by show (rs L).length < _; omega) hm).mono ?_
  rintro e w' ⟨rfl, n, rfl⟩
  exact ⟨_, rfl, ⟨rfl, rfl, rfl, Nat.le_refl _, fun _ _ => rfl⟩⟩

/-- The last that nobody has. -/
abbrev zC (t : TypeId) : Obj := .cells #[.string ⟨#[]⟩, .int .i64 0, .int .i64 0, .int .i64 0, .int .i64 0, .int .i64 0] t
def ResAt (b : Bool) (s : ByteArray) (f : Nat → Int) (w : World) (e : Ending) (w' : World) : Prop := e = .returned (.tuple #[laV s f, .bool b]) ∧ Below w.heap.size w w'
theorem free6 {w : World} {g : Nat} {t : TypeId} {cs : Array Value} (h : w.heap[g]? = some (.cells cs t (0, 0))) (i : Nat) : w.frozen? ⟨g, i, none⟩ = false := by simp [World.frozen?, h]

set_option maxRecDepth 100000 in
set_option maxHeartbeats 4000000 in
theorem impl_read (s : ByteArray) (hs : s.size ≤ 1048576) (w : World) (hV : Vars w) (hM : MaxAt w) :
    Calls Tryd.prog 26 #[.string s] w (ResAt (rlB s.data.toList) (rlS s.data.toList) (rlF s.data.toList) w) := by
  have C1 := Lib.hid (fun w hM => cut1 s hs w hM)
  have hsl : s.data.toList.length ≤ 1048576 := by simpa using hs
  clear hs
  generalize s.data.toList = L at C1 hsl ⊢
  obtain ⟨l1, l2, l3, l4⟩ := parts_len L
  have C2 := Lib.hid (fun w hM => cut2 L hsl w hM)
  have RF : Hid (∀ w, Vars w → MaxAt w → Calls Tryd.prog 19 #[.string ⟨(fo L).toArray⟩] w fun e w' => e = .returned (.tuple #[.agg #[.int .i64 (rfN (fo L) 0), .int .i64 (rfN (fo L) 1), .int .i64 (rfN (fo L) 2), .int .i64 (rfN (fo L) 3)], .bool (rfB (fo L))]) ∧ Below w.heap.size w w') :=
    Lib.hid fun w hV hM => impl_foot ⟨(fo L).toArray⟩ (by show (fo L).length ≤ _; omega) w hV hM
  have RD : Hid (∀ w, Vars w → Calls Tryd.prog 54 #[.string ⟨(ht L).toArray⟩] w fun e w' => e = .returned (.tuple #[.int .i64 (rdN (ht L)), .bool (rdB (ht L))]) ∧ Below w.heap.size w w') :=
    Lib.hid fun w hV => read_any ⟨(ht L).toArray⟩ (by show (ht L).length ≤ _; omega) w hV
  have ON : Hid (∀ w, Calls Tryd.prog 50 #[laV ⟨(nm L).toArray⟩ (gn L)] w fun e w' => e = .returned (.bool (laB ⟨(nm L).toArray⟩ (gn L))) ∧ Below w.heap.size w w') :=
    Lib.hid fun w => one_impl ⟨(nm L).toArray⟩ (gn L) (by show (nm L).length ≤ maxLen; unfold maxLen; omega) w
  have HN := Lib.hid (fun h => rl_no (L := L) h)
  have HY := Lib.hid (fun h => rl_yes (L := L) h)
  have HB : Hid (rlB L = (rfB (fo L) && (rdB (ht L) && laB ⟨(nm L).toArray⟩ (gn L)))) := Lib.hid rfl
  have G0 : Hid (gn L 0 = rfN (fo L) 0 ∧ gn L 1 = rfN (fo L) 1 ∧ gn L 2 = rfN (fo L) 2 ∧ gn L 3 = rfN (fo L) 3 ∧ gn L 4 = rdN (ht L)) := Lib.hid ⟨rfl, rfl, rfl, rfl, rfl⟩
  rw [← G0.out.1, ← G0.out.2.1, ← G0.out.2.2.1, ← G0.out.2.2.2.1] at RF
  rw [← G0.out.2.2.2.2] at RD
  have VV := Lib.hid hV
  have MM := Lib.hid hM
  clear l1 l2 l3 l4 hsl G0 hV hM
  generalize laB ⟨(nm L).toArray⟩ (gn L) = r3 at ON HB
  generalize rfB (fo L) = r1 at RF HB
  generalize rdB (ht L) = r2 at RD HB
  generalize rlB L = b at HN HY HB ⊢
  generalize rlS L = S at HN HY ⊢
  generalize rlF L = F at HN HY ⊢
  generalize gn L = G at *
  generalize (⟨(nm L).toArray⟩ : ByteArray) = tn at *
  generalize (⟨(rs L).toArray⟩ : ByteArray) = tr at *
  generalize (⟨(fo L).toArray⟩ : ByteArray) = tf at *
  generalize (⟨(ht L).toArray⟩ : ByteArray) = td at *
  have K0 := Lib.hid (heap_alloc_new w (zC 41))
  have B0 := Lib.hid (below_box w (zC 41))
  go_enter Tryd.func26, Tryd.ntmps26
  go_wp2_with fail
  generalize w.alloc (zC 41) = w0 at K0 B0 ⊢
  refine (C1.out _ (MM.out.below B0.out)).mono ?_
  rintro e w1 ⟨c1, rfl, b1⟩
  have B1 := Lib.hid (below_then B0.out b1)
  have K1 := Lib.hid (Ba.blk_keep b1 K0.out)
  clear b1 B0 K0
  go_wp2_with fail
  refine (C2.out _ (MM.out.below B1.out)).mono ?_
  rintro e w2 ⟨c2, rfl, b2⟩
  have B2 := Lib.hid (below_then B1.out b2)
  have K2 := Lib.hid (Ba.blk_keep b2 K1.out)
  clear b2 B1 K1
  go_wp2_with fail
  refine (RF.out _ (VV.out.below B2.out) (MM.out.below B2.out)).mono ?_
  rintro e w3 ⟨rfl, b3⟩
  have B3 := Lib.hid (below_then B2.out b3)
  have K3 := Lib.hid (Ba.blk_keep b3 K2.out)
  clear b3 B2 K2
  go_wp2_with fail
  have bb := below_box w3 (.cells #[.int .i64 (G 0), .int .i64 (G 1), .int .i64 (G 2), .int .i64 (G 3)] 31)
  have B4 := Lib.hid (below_then B3.out bb)
  have K4 := Lib.hid (Ba.blk_keep bb K3.out)
  have KF4 := Lib.hid (heap_alloc_new w3 (.cells #[.int .i64 (G 0), .int .i64 (G 1), .int .i64 (G 2), .int .i64 (G 3)] 31))
  generalize w3.alloc (.cells #[.int .i64 (G 0), .int .i64 (G 1), .int .i64 (G 2), .int .i64 (G 3)] 31) = w4 at bb B4 K4 KF4 ⊢
  generalize w3.heap.size = gf at KF4 ⊢
  clear bb B3 K3
  refine (RD.out _ (VV.out.below B4.out)).mono ?_
  rintro e w5 ⟨rfl, b5⟩
  have B5 := Lib.hid (below_then B4.out b5)
  have K5 := Lib.hid (Ba.blk_keep b5 K4.out)
  have KF5 := Lib.hid (Ba.blk_keep b5 KF4.out)
  clear b5 B4 K4 KF4
  obtain ⟨y0, y1, y2, y3⟩ := Ge.blk4 KF5.out
  have bb := below_box w5 (laC tn G 41)
  have B6 := Lib.hid (below_then B5.out bb)
  have K6 := Lib.hid (Ba.blk_keep bb K5.out)
  have KG6 := Lib.hid (heap_alloc_new w5 (laC tn G 41))
  have hz := Ba.lt_of_heap K5.out
  clear bb
  go_upto_region 6 with fail
  generalize w5.alloc (laC tn G 41) = w6 at B6 K6 KG6 ⊢
  generalize w5.heap.size = gg at KG6 ⊢
  clear y0 y1 y2 y3 K5 KF5 B5 hz C1 C2 RF RD VV MM
  obtain ⟨z0, z1, z2, z3, z4, z5⟩ := Ge.blk6 K6.out
  obtain ⟨q0, q1, q2, q3, q4, q5⟩ := Ge.blk6 KG6.out
  have hfr := free6 K6.out
  have R : (r1 = false ∨ (r1 = true ∧ r2 = false) ∨ (r1 = true ∧ r2 = true)) := by cases r1 <;> cases r2 <;> simp
  rcases R with rfl | ⟨rfl, rfl⟩ | ⟨rfl, rfl⟩
  · clear HY ON
    clear q0 q1 q2 q3 q4 q5 KG6
    obtain ⟨hbb, hS, hF⟩ := HN.out (by rw [HB.out]; rfl)
    have hE : laV S F = .agg #[.string ⟨#[]⟩, .int .i64 0, .int .i64 0, .int .i64 0, .int .i64 0, .int .i64 0]  := by rw [hS]; show Value.agg #[.string _, .int .i64 (F 0), .int .i64 (F 1), .int .i64 (F 2), .int .i64 (F 3), .int .i64 (F 4)] = _; rw [hF 0, hF 1, hF 2, hF 3, hF 4]
    clear hS hF
    go_wp2_with fail
    exact bodyPost_ret (v := .tuple #[.agg #[.string ⟨#[]⟩, .int .i64 0, .int .i64 0, .int .i64 0, .int .i64 0, .int .i64 0], .bool false]) (by simp [results, Tryd.results26, go_sem, z0, z1, z2, z3, z4, z5]) rfl ⟨by first | rw [hE, hbb] | rw [hE], ((((((B6.out.setCell (by simp) _).setCell (by simp) _).setCell (by simp) _).setCell (by simp) _).setCell (by simp) _).setCell (by simp) _)⟩
  · clear HY ON
    clear q0 q1 q2 q3 q4 q5 KG6
    obtain ⟨hbb, hS, hF⟩ := HN.out (by rw [HB.out]; rfl)
    have hE : laV S F = .agg #[.string ⟨#[]⟩, .int .i64 0, .int .i64 0, .int .i64 0, .int .i64 0, .int .i64 0]  := by rw [hS]; show Value.agg #[.string _, .int .i64 (F 0), .int .i64 (F 1), .int .i64 (F 2), .int .i64 (F 3), .int .i64 (F 4)] = _; rw [hF 0, hF 1, hF 2, hF 3, hF 4]
    clear hS hF
    go_wp2_with fail
    exact bodyPost_ret (v := .tuple #[.agg #[.string ⟨#[]⟩, .int .i64 0, .int .i64 0, .int .i64 0, .int .i64 0, .int .i64 0], .bool false]) (by simp [results, Tryd.results26, go_sem, z0, z1, z2, z3, z4, z5]) rfl ⟨by first | rw [hE, hbb] | rw [hE], ((((((B6.out.setCell (by simp) _).setCell (by simp) _).setCell (by simp) _).setCell (by simp) _).setCell (by simp) _).setCell (by simp) _)⟩
  · go_wp2_with fail
    refine (ON.out _).mono ?_
    rintro e w7 ⟨rfl, b7⟩
    have B7 := Lib.hid (below_then B6.out b7)
    have K7 := Lib.hid (Ba.blk_keep b7 K6.out)
    have KG7 := Lib.hid (Ba.blk_keep b7 KG6.out)
    clear b7 z0 z1 z2 z3 z4 z5 q0 q1 q2 q3 q4 q5 hfr B6 K6 KG6
    obtain ⟨z0, z1, z2, z3, z4, z5⟩ := Ge.blk6 K7.out
    obtain ⟨q0, q1, q2, q3, q4, q5⟩ := Ge.blk6 KG7.out
    have hfr := free6 K7.out
    cases r3
    · clear HY
      obtain ⟨hbb, hS, hF⟩ := HN.out (by rw [HB.out]; rfl)
      have hE : laV S F = .agg #[.string ⟨#[]⟩, .int .i64 0, .int .i64 0, .int .i64 0, .int .i64 0, .int .i64 0] := by rw [hS]; show Value.agg #[.string _, .int .i64 (F 0), .int .i64 (F 1), .int .i64 (F 2), .int .i64 (F 3), .int .i64 (F 4)] = _; rw [hF 0, hF 1, hF 2, hF 3, hF 4]
      clear hS hF
      go_wp2_with fail
      exact bodyPost_ret (v := .tuple #[.agg #[.string ⟨#[]⟩, .int .i64 0, .int .i64 0, .int .i64 0, .int .i64 0, .int .i64 0], .bool false]) (by simp [results, Tryd.results26, go_sem, z0, z1, z2, z3, z4, z5]) rfl ⟨by first | rw [hE, hbb] | rw [hE], ((((((B7.out.setCell (by simp) _).setCell (by simp) _).setCell (by simp) _).setCell (by simp) _).setCell (by simp) _).setCell (by simp) _)⟩
    · obtain ⟨hbb, hS, hF⟩ := HY.out (by rw [HB.out]; rfl)
      have hE : laV S F = laV tn G := by rw [hS]; show Value.agg #[.string _, .int .i64 (F 0), .int .i64 (F 1), .int .i64 (F 2), .int .i64 (F 3), .int .i64 (F 4)] = _; rw [hF 0, hF 1, hF 2, hF 3, hF 4]
      clear hS hF
      go_wp2_with fail
      exact bodyPost_ret (v := .tuple #[laV tn G, .bool true]) (by simp [results, Tryd.results26, go_sem, z0, z1, z2, z3, z4, z5]) rfl ⟨by first | rw [hE, hbb] | rw [hE], ((((((B7.out.setCell (by simp) _).setCell (by simp) _).setCell (by simp) _).setCell (by simp) _).setCell (by simp) _).setCell (by simp) _)⟩

theorem not_shape {L : List UInt8} (h : ¬ Shape L) : ¬ (spl 32 L).length = 4 ∨ ∃ a b e d, spl 32 L = [a, b, e, d] ∧ (e == [112, 105, 116, 99, 104]) = false := by
  by_cases h4 : (spl 32 L).length = 4
  · match hs : spl 32 L, h4 with
    | [a, b, e, d], _ =>
      refine .inr ⟨a, b, e, d, rfl, ?_⟩
      cases he : (e == [112, 105, 116, 99, 104])
      · rfl
      · have he2 : e = [112, 105, 116, 99, 104] := by simpa using he
        have : e = pch := he2
        subst this
        exact absurd ⟨a, b, d, hs⟩ h
  · exact .inl h4
theorem keep_of {w2 W : World} {g o : Nat} {v : Value} (hb : Below w2.heap.size w2 W) (hg : g < w2.heap.size) (h : w2.cell? ⟨g, o, none⟩ = some v) : W.cell? ⟨g, o, none⟩ = some v := (hb.cell (p := ⟨g, o, none⟩) hg).trans h

set_option maxRecDepth 100000 in
set_option maxHeartbeats 4000000 in
theorem spec_no (s : ByteArray) (hs : s.size ≤ 1048576) (hn : ¬ Shape s.data.toList) (w : World) :
    Calls Tryd.prog 25 #[.string s] w (ResAt (rlB s.data.toList) (rlS s.data.toList) (rlF s.data.toList) w) := by
  have SP0 := fun w => split_any s 32 hs w
  rw [show (((32 : UInt8).toNat : Nat) : Int) = 32 by decide] at SP0
  have SP := Lib.hid SP0
  clear SP0 hs
  generalize s.data.toList = L at SP hn ⊢
  have HNO := Lib.hid (rl_no (rl_shape hn))
  have NS := not_shape hn
  clear hn
  generalize rlB L = b at HNO ⊢
  generalize rlS L = S at HNO ⊢
  generalize rlF L = F at HNO ⊢
  have K0 := Lib.hid (heap_alloc_new w (zC 41))
  have B0 := Lib.hid (below_box w (zC 41))
  rcases NS with h4 | ⟨a, b', e, d, hP, hq⟩
  · have hn0 : 0 < (spl 32 L).length := List.length_pos_iff.2 (spl_ne _ _)
    generalize (spl 32 L).length = n at SP h4 hn0
    generalize strs (spl 32 L) = xs at SP
    have hne : ¬ (n : Int) = 4 := by omega
    go_enter Tryd.func25, Tryd.ntmps25
    go_wp2_with fail
    generalize w.alloc (zC 41) = w0 at K0 B0 ⊢
    refine (SP.out _).mono ?_
    rintro e w2 ⟨v, rfl, HR, b2⟩
    have B2 := Lib.hid (below_then B0.out b2)
    have K2 := Lib.hid (Ba.blk_keep b2 K0.out)
    clear b2 K0 B0
    obtain ⟨z0, z1, z2, z3, z4, z5⟩ := Ge.blk6 K2.out
    have hfr := free6 K2.out
    obtain ⟨g, cap, rfl, _, _⟩ := HR.out.form (by omega)
    clear HR
    obtain ⟨hbb, hS, hF⟩ := HNO.out
    have hE : laV S F = .agg #[.string ⟨#[]⟩, .int .i64 0, .int .i64 0, .int .i64 0, .int .i64 0, .int .i64 0] := by rw [hS]; show Value.agg #[.string _, .int .i64 (F 0), .int .i64 (F 1), .int .i64 (F 2), .int .i64 (F 3), .int .i64 (F 4)] = _; rw [hF 0, hF 1, hF 2, hF 3, hF 4]
    clear hS hF
    go_wp2_with fail
    exact bodyPost_ret (v := .tuple #[.agg #[.string ⟨#[]⟩, .int .i64 0, .int .i64 0, .int .i64 0, .int .i64 0, .int .i64 0], .bool false]) (by simp [results, Tryd.results25, go_sem, z0, z1, z2, z3, z4, z5]) rfl ⟨by first | rw [hE, hbb] | rw [hE], ((((((B2.out.setCell (by simp) _).setCell (by simp) _).setCell (by simp) _).setCell (by simp) _).setCell (by simp) _).setCell (by simp) _)⟩
  · rw [hP] at SP
    go_enter Tryd.func25, Tryd.ntmps25
    go_wp2_with fail
    generalize w.alloc (zC 41) = w0 at K0 B0 ⊢
    refine (SP.out _).mono ?_
    rintro e' w2 ⟨v, rfl, HR, b2⟩
    have B2 := Lib.hid (below_then B0.out b2)
    have K2 := Lib.hid (Ba.blk_keep b2 K0.out)
    clear b2 K0 B0
    obtain ⟨z0, z1, z2, z3, z4, z5⟩ := Ge.blk6 K2.out
    have hfr := free6 K2.out
    obtain ⟨g, cap, rfl, _, hgl⟩ := HR.out.form (by simp)
    have c2 : w2.cell? ⟨g, 2, none⟩ = some (.string ⟨e.toArray⟩) := (HR.out.cellAt 2 (by simp)).trans rfl
    clear HR SP
    obtain ⟨hbb, hS, hF⟩ := HNO.out
    have hE : laV S F = .agg #[.string ⟨#[]⟩, .int .i64 0, .int .i64 0, .int .i64 0, .int .i64 0, .int .i64 0] := by rw [hS]; show Value.agg #[.string _, .int .i64 (F 0), .int .i64 (F 1), .int .i64 (F 2), .int .i64 (F 3), .int .i64 (F 4)] = _; rw [hF 0, hF 1, hF 2, hF 3, hF 4]
    clear hS hF
    go_wp2_with fail
    exact bodyPost_ret (v := .tuple #[.agg #[.string ⟨#[]⟩, .int .i64 0, .int .i64 0, .int .i64 0, .int .i64 0, .int .i64 0], .bool false]) (by simp [results, Tryd.results25, go_sem, z0, z1, z2, z3, z4, z5]) rfl ⟨by first | rw [hE, hbb] | rw [hE], ((((((B2.out.setCell (by simp) _).setCell (by simp) _).setCell (by simp) _).setCell (by simp) _).setCell (by simp) _).setCell (by simp) _)⟩

set_option maxRecDepth 100000 in
set_option maxHeartbeats 8000000 in
theorem spec_yes (s : ByteArray) (hs : s.size ≤ 1048576) (hp : Shape s.data.toList) (w : World) :
    Calls Tryd.prog 25 #[.string s] w (ResAt (rlB s.data.toList) (rlS s.data.toList) (rlF s.data.toList) w) := by
  have SP0 := fun w => split_any s 32 hs w
  rw [show (((32 : UInt8).toNat : Nat) : Int) = 32 by decide] at SP0
  have SP := Lib.hid SP0
  have hsl : s.data.toList.length ≤ 1048576 := by simpa using hs
  clear SP0 hs
  generalize s.data.toList = L at SP hp hsl ⊢
  obtain ⟨a', b', d', hP⟩ := hp
  obtain ⟨rfl, rfl, rfl⟩ := shape_cuts hP
  rw [hP] at SP
  clear hP
  obtain ⟨l1, l2, l3, l4⟩ := parts_len L
  have RF : Hid (∀ w, Calls Tryd.prog 18 #[.string ⟨(fo L).toArray⟩] w fun e w' => e = .returned (.tuple #[.agg #[.int .i64 (rfN (fo L) 0), .int .i64 (rfN (fo L) 1), .int .i64 (rfN (fo L) 2), .int .i64 (rfN (fo L) 3)], .bool (rfB (fo L))]) ∧ Below w.heap.size w w') :=
    Lib.hid fun w => spec_foot ⟨(fo L).toArray⟩ (by show (fo L).length ≤ _; omega) w
  have RD : Hid (∀ w, Calls Tryd.prog 35 #[.string ⟨(ht L).toArray⟩] w fun e w' => e = .returned (.tuple #[.int .i64 (rdN (ht L)), .bool (rdB (ht L))]) ∧ Below w.heap.size w w') :=
    Lib.hid fun w => num_any ⟨(ht L).toArray⟩ (by show (ht L).length ≤ maxLen; unfold maxLen; omega) w
  have ON : Hid (∀ w, Calls Tryd.prog 48 #[laV ⟨(nm L).toArray⟩ (gn L)] w fun e w' => e = .returned (.bool (laB ⟨(nm L).toArray⟩ (gn L))) ∧ Below w.heap.size w w') :=
    Lib.hid fun w => one_spec ⟨(nm L).toArray⟩ (gn L) (by show (nm L).length ≤ maxLen; unfold maxLen; omega) w
  have HN := Lib.hid (fun h => rl_no (L := L) h)
  have HY := Lib.hid (fun h => rl_yes (L := L) h)
  have HB : Hid (rlB L = (rfB (fo L) && (rdB (ht L) && laB ⟨(nm L).toArray⟩ (gn L)))) := Lib.hid rfl
  have G0 : Hid (gn L 0 = rfN (fo L) 0 ∧ gn L 1 = rfN (fo L) 1 ∧ gn L 2 = rfN (fo L) 2 ∧ gn L 3 = rfN (fo L) 3 ∧ gn L 4 = rdN (ht L)) := Lib.hid ⟨rfl, rfl, rfl, rfl, rfl⟩
  rw [← G0.out.1, ← G0.out.2.1, ← G0.out.2.2.1, ← G0.out.2.2.2.1] at RF
  rw [← G0.out.2.2.2.2] at RD
  have XS : Hid ((strs [nm L, fo L, pch, ht L])[0]? = some (.string ⟨(nm L).toArray⟩) ∧ (strs [nm L, fo L, pch, ht L])[1]? = some (.string ⟨(fo L).toArray⟩) ∧ (strs [nm L, fo L, pch, ht L])[2]? = some (.string ⟨#[112, 105, 116, 99, 104]⟩) ∧ (strs [nm L, fo L, pch, ht L])[3]? = some (.string ⟨(ht L).toArray⟩)) := Lib.hid ⟨rfl, rfl, rfl, rfl⟩
  have hl4 : ([nm L, fo L, pch, ht L] : List (List UInt8)).length = 4 := rfl
  rw [hl4] at SP
  clear l1 l2 l3 l4 hsl G0 hl4
  generalize laB ⟨(nm L).toArray⟩ (gn L) = r3 at ON HB
  generalize rfB (fo L) = r1 at RF HB
  generalize rdB (ht L) = r2 at RD HB
  generalize rlB L = b at HN HY HB ⊢
  generalize rlS L = S at HN HY ⊢
  generalize rlF L = F at HN HY ⊢
  generalize gn L = G at *
  generalize strs [nm L, fo L, pch, ht L] = xs at *
  generalize (⟨(nm L).toArray⟩ : ByteArray) = tn at *
  generalize (⟨(fo L).toArray⟩ : ByteArray) = tf at *
  generalize (⟨(ht L).toArray⟩ : ByteArray) = td at *
  have K0 := Lib.hid (heap_alloc_new w (zC 41))
  have B0 := Lib.hid (below_box w (zC 41))
  go_enter Tryd.func25, Tryd.ntmps25
  go_wp2_with fail
  generalize w.alloc (zC 41) = w0 at K0 B0 ⊢
  refine (SP.out _).mono ?_
  rintro e w2 ⟨v, rfl, HR, b2⟩
  have B2 := Lib.hid (below_then B0.out b2)
  have K2 := Lib.hid (Ba.blk_keep b2 K0.out)
  clear b2 K0 B0 SP
  obtain ⟨g, cap, rfl, _, hgl⟩ := HR.out.form (by omega)
  have c0 : w2.cell? ⟨g, 0, none⟩ = some (.string tn) := (HR.out.cellAt 0 (by omega)).trans XS.out.1
  have c1 : w2.cell? ⟨g, 1, none⟩ = some (.string tf) := (HR.out.cellAt 1 (by omega)).trans XS.out.2.1
  have c2 : w2.cell? ⟨g, 2, none⟩ = some (.string ⟨#[112, 105, 116, 99, 104]⟩) := (HR.out.cellAt 2 (by omega)).trans XS.out.2.2.1
  have c3 : w2.cell? ⟨g, 3, none⟩ = some (.string td) := (HR.out.cellAt 3 (by omega)).trans XS.out.2.2.2
  clear HR XS
  go_wp2_with fail
  refine (RF.out _).mono ?_
  rintro e w3 ⟨rfl, b3⟩
  have B3 := Lib.hid (below_then B2.out b3)
  have K3 := Lib.hid (Ba.blk_keep b3 K2.out)
  have c0 : w3.cell? ⟨g, 0, none⟩ = some (.string tn) := (b3.cell (p := ⟨g, 0, none⟩) hgl).trans c0
  have c3 : w3.cell? ⟨g, 3, none⟩ = some (.string td) := (b3.cell (p := ⟨g, 3, none⟩) hgl).trans c3
  have hgl3 : g < w3.heap.size := Nat.lt_of_lt_of_le hgl b3.size
  clear b3 B2 K2 c1 c2 hgl
  go_wp2_with fail
  have bb := below_box w3 (.cells #[.int .i64 (G 0), .int .i64 (G 1), .int .i64 (G 2), .int .i64 (G 3)] 31)
  have B4 := Lib.hid (below_then B3.out bb)
  have K4 := Lib.hid (Ba.blk_keep bb K3.out)
  have KF4 := Lib.hid (heap_alloc_new w3 (.cells #[.int .i64 (G 0), .int .i64 (G 1), .int .i64 (G 2), .int .i64 (G 3)] 31))
  have c0 := (bb.cell (p := ⟨g, 0, none⟩) hgl3).trans c0
  have hgl4 := Nat.lt_of_lt_of_le hgl3 bb.size
  generalize w3.alloc (.cells #[.int .i64 (G 0), .int .i64 (G 1), .int .i64 (G 2), .int .i64 (G 3)] 31) = w4 at bb B4 K4 KF4 c0 hgl4 ⊢
  generalize w3.heap.size = gf at KF4 ⊢
  clear bb B3 K3 c3 hgl3
  refine (RD.out _).mono ?_
  rintro e w5 ⟨rfl, b5⟩
  have B5 := Lib.hid (below_then B4.out b5)
  have K5 := Lib.hid (Ba.blk_keep b5 K4.out)
  have KF5 := Lib.hid (Ba.blk_keep b5 KF4.out)
  have c0 : w5.cell? ⟨g, 0, none⟩ = some (.string tn) := (b5.cell (p := ⟨g, 0, none⟩) hgl4).trans c0
  have hgl5 : g < w5.heap.size := Nat.lt_of_lt_of_le hgl4 b5.size
  clear b5 B4 K4 KF4 hgl4
  obtain ⟨y0, y1, y2, y3⟩ := Ge.blk4 KF5.out
  have lf := Ba.lt_of_heap KF5.out
  go_upto_region 6 with fail
  go_cut [9] (fun s9 wx => ∃ g9 : Nat, s9 = .pointer (some ⟨g9, 0, none⟩) ∧ Below w5.heap.size w5 wx ∧
    Hid (wx.cell? ⟨g9, 0, none⟩ = some (.string tn) ∧ wx.cell? ⟨g9, 1, none⟩ = some (.int .i64 (G 0)) ∧ wx.cell? ⟨g9, 2, none⟩ = some (.int .i64 (G 1)) ∧ wx.cell? ⟨g9, 3, none⟩ = some (.int .i64 (G 2)) ∧ wx.cell? ⟨g9, 4, none⟩ = some (.int .i64 (G 3)) ∧ wx.cell? ⟨g9, 5, none⟩ = some (.int .i64 (G 4))))
  case first =>
    clear K5 KF5 RF RD ON HN HY HB
    go_region_held3 (fun w' => w'.cell? ⟨g, 0, none⟩ = some (.string tn) ∧ w'.cell? ⟨gf, 0, none⟩ = some (.int .i64 (G 0)) ∧ w'.cell? ⟨gf, 1, none⟩ = some (.int .i64 (G 1)) ∧ w'.cell? ⟨gf, 2, none⟩ = some (.int .i64 (G 2)) ∧ w'.cell? ⟨gf, 3, none⟩ = some (.int .i64 (G 3)))
      (first | (refine ⟨?_, ?_, ?_, ?_, ?_⟩ <;> (refine keep_of (w2 := w5) ?_ (by omega) (by assumption); (repeat (first | exact Below.refl _ _ | refine Below.drew ?_ | refine Below.alloc ?_ (by simp <;> omega) _ | refine Below.setCell ?_ (by simp <;> omega) _)))))
      (fail)
    all_goals
      go_wp2_with fail
      go_meet
      refine ⟨_, rfl, ?_, Lib.hid ?_⟩
      · repeat (first | exact Below.refl _ _ | refine Below.drew ?_ | refine Below.alloc ?_ (by simp <;> omega) _ | refine Below.setCell ?_ (by simp <;> omega) _)
      · go_simp
  case rest =>
    obtain ⟨g9, rfl, bc, hc⟩ := hcut
    have B6 := Lib.hid (below_then B5.out bc)
    have K6 := Lib.hid (Ba.blk_keep bc K5.out)
    clear bc B5 K5 KF5 c0 y0 y1 y2 y3 hgl5 lf RF RD
    obtain ⟨q0, q1, q2, q3, q4, q5⟩ := hc.out
    have hg9 := World.block_lt_of_cell? wc _ q0
    obtain ⟨z0, z1, z2, z3, z4, z5⟩ := Ge.blk6 K6.out
    have hfr := free6 K6.out
    have R : (r1 = false ∨ (r1 = true ∧ r2 = false) ∨ (r1 = true ∧ r2 = true)) := by cases r1 <;> cases r2 <;> simp
    rcases R with rfl | ⟨rfl, rfl⟩ | ⟨rfl, rfl⟩
    · clear HY ON q0 q1 q2 q3 q4 q5 hc
      obtain ⟨hbb, hS, hF⟩ := HN.out (by rw [HB.out]; rfl)
      have hE : laV S F = .agg #[.string ⟨#[]⟩, .int .i64 0, .int .i64 0, .int .i64 0, .int .i64 0, .int .i64 0] := by rw [hS]; show Value.agg #[.string _, .int .i64 (F 0), .int .i64 (F 1), .int .i64 (F 2), .int .i64 (F 3), .int .i64 (F 4)] = _; rw [hF 0, hF 1, hF 2, hF 3, hF 4]
      clear hS hF
      go_wp2_with fail
      exact bodyPost_ret (v := .tuple #[.agg #[.string ⟨#[]⟩, .int .i64 0, .int .i64 0, .int .i64 0, .int .i64 0, .int .i64 0], .bool false]) (by simp [results, Tryd.results25, go_sem, z0, z1, z2, z3, z4, z5]) rfl ⟨by first | rw [hE, hbb] | rw [hE], ((((((B6.out.setCell (by simp) _).setCell (by simp) _).setCell (by simp) _).setCell (by simp) _).setCell (by simp) _).setCell (by simp) _)⟩
    · clear HY ON q0 q1 q2 q3 q4 q5 hc
      obtain ⟨hbb, hS, hF⟩ := HN.out (by rw [HB.out]; rfl)
      have hE : laV S F = .agg #[.string ⟨#[]⟩, .int .i64 0, .int .i64 0, .int .i64 0, .int .i64 0, .int .i64 0] := by rw [hS]; show Value.agg #[.string _, .int .i64 (F 0), .int .i64 (F 1), .int .i64 (F 2), .int .i64 (F 3), .int .i64 (F 4)] = _; rw [hF 0, hF 1, hF 2, hF 3, hF 4]
      clear hS hF
      go_wp2_with fail
      exact bodyPost_ret (v := .tuple #[.agg #[.string ⟨#[]⟩, .int .i64 0, .int .i64 0, .int .i64 0, .int .i64 0, .int .i64 0], .bool false]) (by simp [results, Tryd.results25, go_sem, z0, z1, z2, z3, z4, z5]) rfl ⟨by first | rw [hE, hbb] | rw [hE], ((((((B6.out.setCell (by simp) _).setCell (by simp) _).setCell (by simp) _).setCell (by simp) _).setCell (by simp) _).setCell (by simp) _)⟩
    · go_wp2_with fail
      refine (ON.out _).mono ?_
      rintro e w7 ⟨rfl, b7⟩
      have B7 := Lib.hid (below_then B6.out b7)
      have K7 := Lib.hid (Ba.blk_keep b7 K6.out)
      have q0 : w7.cell? ⟨g9, 0, none⟩ = some (.string tn) := (b7.cell (p := ⟨g9, 0, none⟩) hg9).trans q0
      have q1 : w7.cell? ⟨g9, 1, none⟩ = some (.int .i64 (G 0)) := (b7.cell (p := ⟨g9, 1, none⟩) hg9).trans q1
      have q2 : w7.cell? ⟨g9, 2, none⟩ = some (.int .i64 (G 1)) := (b7.cell (p := ⟨g9, 2, none⟩) hg9).trans q2
      have q3 : w7.cell? ⟨g9, 3, none⟩ = some (.int .i64 (G 2)) := (b7.cell (p := ⟨g9, 3, none⟩) hg9).trans q3
      have q4 : w7.cell? ⟨g9, 4, none⟩ = some (.int .i64 (G 3)) := (b7.cell (p := ⟨g9, 4, none⟩) hg9).trans q4
      have q5 : w7.cell? ⟨g9, 5, none⟩ = some (.int .i64 (G 4)) := (b7.cell (p := ⟨g9, 5, none⟩) hg9).trans q5
      clear b7 z0 z1 z2 z3 z4 z5 hfr B6 K6 hc
      obtain ⟨z0, z1, z2, z3, z4, z5⟩ := Ge.blk6 K7.out
      have hfr := free6 K7.out
      cases r3
      · clear HY
        obtain ⟨hbb, hS, hF⟩ := HN.out (by rw [HB.out]; rfl)
        have hE : laV S F = .agg #[.string ⟨#[]⟩, .int .i64 0, .int .i64 0, .int .i64 0, .int .i64 0, .int .i64 0] := by rw [hS]; show Value.agg #[.string _, .int .i64 (F 0), .int .i64 (F 1), .int .i64 (F 2), .int .i64 (F 3), .int .i64 (F 4)] = _; rw [hF 0, hF 1, hF 2, hF 3, hF 4]
        clear hS hF
        go_wp2_with fail
        exact bodyPost_ret (v := .tuple #[.agg #[.string ⟨#[]⟩, .int .i64 0, .int .i64 0, .int .i64 0, .int .i64 0, .int .i64 0], .bool false]) (by simp [results, Tryd.results25, go_sem, z0, z1, z2, z3, z4, z5]) rfl ⟨by first | rw [hE, hbb] | rw [hE], ((((((B7.out.setCell (by simp) _).setCell (by simp) _).setCell (by simp) _).setCell (by simp) _).setCell (by simp) _).setCell (by simp) _)⟩
      · obtain ⟨hbb, hS, hF⟩ := HY.out (by rw [HB.out]; rfl)
        have hE : laV S F = laV tn G := by rw [hS]; show Value.agg #[.string _, .int .i64 (F 0), .int .i64 (F 1), .int .i64 (F 2), .int .i64 (F 3), .int .i64 (F 4)] = _; rw [hF 0, hF 1, hF 2, hF 3, hF 4]
        clear hS hF
        go_wp2_with fail
        exact bodyPost_ret (v := .tuple #[laV tn G, .bool true]) (by simp [results, Tryd.results25, go_sem, z0, z1, z2, z3, z4, z5]) rfl ⟨by first | rw [hE, hbb] | rw [hE], ((((((B7.out.setCell (by simp) _).setCell (by simp) _).setCell (by simp) _).setCell (by simp) _).setCell (by simp) _).setCell (by simp) _)⟩
end Go.Proofs.YtggbdpamjjgakabDoor.Rx
