/- A seam is sewn: the program's. -/
import Derived.Test.YtpmmfalpcooenabZbLib
import Derived.Deep.QuietTactic
import Derived.BigQuiet
import Derived.LaidEqlPtr
namespace Go.Proofs.Ytpmmfalpcooenab.Zc
set_option linter.unusedVariables false
open Go.RowKit Go.Maps Ft Is Ge Qb Pt Pv Za Mm Zb

abbrev sfV (A : Option Addr) (n c : Nat) (Y : Option Addr) (k sc : Nat) (o : Int) (es : Value) (bm : Nat) : Value := .agg #[.slice A n c, .slice Y k sc, .int .i64 o, es, .map (some bm)]
theorem place_a (s0 s1 s2 s3 : Int) (w : World) : Calls Try.prog 140 #[seV s0 s1 s2 s3] w fun e w' => e = .returned (edV s0 s1) ∧ Below w.heap.size w w' := by
  unfold seV
  go_enter Try.func140, Try.ntmps140
  go_wp2
  exact bodyPost_ret (v := .agg #[.int .i64 s0, .int .i64 s1]) (by simp [results, Try.results140, go_sem]) rfl ⟨rfl, by repeat (first | exact Below.refl _ _ | exact below_box _ _ | refine Below.setCell ?_ (by simp <;> omega) _ | refine Below.drew ?_ | refine Below.alloc ?_ (by simp <;> omega) _)⟩
theorem place_b (s0 s1 s2 s3 : Int) (w : World) : Calls Try.prog 141 #[seV s0 s1 s2 s3] w fun e w' => e = .returned (edV s2 s3) ∧ Below w.heap.size w w' := by
  unfold seV
  go_enter Try.func141, Try.ntmps141
  go_wp2
  exact bodyPost_ret (v := .agg #[.int .i64 s2, .int .i64 s3]) (by simp [results, Try.results141, go_sem]) rfl ⟨rfl, by repeat (first | exact Below.refl _ _ | exact below_box _ _ | refine Below.setCell ?_ (by simp <;> omega) _ | refine Below.drew ?_ | refine Below.alloc ?_ (by simp <;> omega) _)⟩
theorem is_open (b : Nat) (y : Option Addr) (w : World) (h : w.cell? ⟨b, 4, none⟩ = some (.pointer y)) : Calls Try.prog 145 #[.pointer (some ⟨b, 0, none⟩)] w fun e w' => e = .returned (.bool y.isNone) ∧ w = w' := by
  cases y with
  | none =>
    go_enter Try.func145, Try.ntmps145
    go_wp2_with fail
    go_ret
    exact ⟨rfl, rfl⟩
  | some y =>
    go_enter Try.func145, Try.ntmps145
    go_wp2_with fail
    go_ret
    exact ⟨rfl, rfl⟩
theorem ptr_same (b : Nat) (w : World) : (binOp .eql 169 (.pointer (some ⟨b, 0, none⟩)) (.pointer (some ⟨b, 0, none⟩))).run Try.prog w = .ok (.bool true) w := by
  cases hj : Try.prog.info? 173 with
  | none => exact absurd hj (by have : (Try.prog.info? 173).isSome = true := by kernel_rfl
                                intro e; rw [e] at this; cases this)
  | some j => exact run_eql_ptr_same w _ Try.underlying169 hj
theorem info_he : (Try.prog.info? 173).map (fun i => i.size) = some 5 := by kernel_rfl
theorem ptr_other {b b' : Nat} (w : World) (hne : b ≠ b') {ca cb : Array Value} {ta tb : TypeId} (ha : w.heap[b]? = some (.cells ca ta (0, 0))) (hb : w.heap[b']? = some (.cells cb tb (0, 0))) : (binOp .eql 169 (.pointer (some ⟨b, 0, none⟩)) (.pointer (some ⟨b', 0, none⟩))).run Try.prog w = .ok (.bool false) w := by
  have h := info_he
  cases hj : Try.prog.info? 173 with
  | none => rw [hj] at h; cases h
  | some j =>
    rw [hj] at h
    have hs : j.size = 5 := Option.some.inj h
    exact run_eql_ptr_other w Try.underlying169 hj (by omega) (fun e => hne (Addr.mk.inj e).1) ha hb
theorem zeroP (w : World) : (zeroValue 169).run Try.prog w = .ok (.pointer none) w := by kernel_rfl
/-- Blocks of other kinds than edges are as they were. -/
def Kept (w w' : World) : Prop := ∀ (b : Nat) (cs : Array Value) (t : TypeId), w.heap[b]? = some (.cells cs t (0, 0)) → t ≠ 173 → w'.heap[b]? = some (.cells cs t (0, 0))
theorem Kept.of_below {w w' : World} (h : Below w.heap.size w w') : Kept w w' := fun b cs t hb _ => blk_keep h hb
theorem Kept.set {w w' : World} (h : Kept w w') {b o : Nat} {u : Value} {cs : Array Value} (hb : w'.heap[b]? = some (.cells cs 173 (0, 0))) : Kept w (w'.setCell ⟨b, o, none⟩ u) := fun q cs' t hq ht =>
  (Below.heap_setCell _ _ _ _ fun e => by
    have := h q cs' t hq ht
    change q = b at e
    rw [e, hb] at this
    cases this
    exact ht rfl).trans (h q cs' t hq ht)
open Classical in
noncomputable def swC (n : Nat) (ms : Nat → Nat) (S : Nat → Int) (j : Nat) : Int := if SwP n ms S j then 0 else if sdB n ms (S (j * 4)) (S (j * 4 + 1)) (S (j * 4 + 2)) (S (j * 4 + 3)) = true then 9 else 2
open Classical in
/-- What a seam makes of a surface. -/
noncomputable def swM (n : Nat) (ms : Nat → Nat) (S : Nat → Int) (j : Nat) : Nat × Nat → Option (Nat × Nat) := if SwP n ms S j then mate S (j + 1) else mate S j
def opA (P : Nat × Nat → Nat) (M : Nat × Nat → Option (Nat × Nat)) (x : Nat × Nat) : Option Addr := match M x with | none => none | some y => some ⟨P y, 0, none⟩
theorem op_eq (P : Nat × Nat → Nat) (M : Nat × Nat → Option (Nat × Nat)) (x : Nat × Nat) : op P M x = .pointer (opA P M x) := by
  unfold op opA
  cases M x <;> rfl
theorem opA_none (P : Nat × Nat → Nat) (M : Nat × Nat → Option (Nat × Nat)) (x : Nat × Nat) : (opA P M x).isNone = (M x).isNone := by
  unfold opA
  cases M x <;> rfl
set_option maxRecDepth 100000 in
set_option maxHeartbeats 4000000 in
theorem sew (A : Option Addr) (n c : Nat) (Y : Option Addr) (k sc : Nat) (o : Int) (ms : Nat → Nat) (ds : Nat → Nat → Int) (S : Nat → Int) (j : Nat) (es : Value) (B bm : Nat) (P : Nat × Nat → Nat) (g : Lit → Option Value) (rl : List (Nat × Nat)) (hn : n ≤ 10) (hm : ∀ i, i < n → ms i ≤ 8)
    (hw : ∀ i, i < 4 → (Lit.int .i64 (S (j * 4 + i))).wf = true) (w : World) (hB : B ≤ w.heap.size) (h : Surf B n ms ds rl (plc ms n) (mate S j) es bm P g w) :
    Calls Try.prog 139 #[sfV A n c Y k sc o es bm, seV (S (j * 4)) (S (j * 4 + 1)) (S (j * 4 + 2)) (S (j * 4 + 3))] w fun e w' => e = .returned (.int .i64 (swC n ms S j)) ∧ Below B w w' ∧ Hid (Kept w w') ∧ Hid (Surf B n ms ds rl (plc ms n) (swM n ms S j) es bm P g w') := by
  have H := Lib.hid h
  have w0 := hw 0 (by omega)
  have w1 := hw 1 (by omega)
  have w2 := hw 2 (by omega)
  have w3 := hw 3 (by omega)
  simp only [Nat.add_zero] at w0
  have k1 := key_ed w0 w1
  have k2 := key_ed w2 w3
  obtain ⟨ka, kb⟩ := two w (.cells #[.slice A n c, .slice Y k sc, .int .i64 o, es, .map (some bm)] 134) (.cells #[.int .i64 (S (j * 4)), .int .i64 (S (j * 4 + 1)), .int .i64 (S (j * 4 + 2)), .int .i64 (S (j * 4 + 3))] 162)
  have BB := Lib.hid (below2 w (.cells #[.slice A n c, .slice Y k sc, .int .i64 o, es, .map (some bm)] 134) (.cells #[.int .i64 (S (j * 4)), .int .i64 (S (j * 4 + 1)), .int .i64 (S (j * 4 + 2)), .int .i64 (S (j * 4 + 3))] 162))
  have KA := Lib.hid ka
  have KB := Lib.hid kb
  have CA := Lib.hid (fun w => place_a (S (j * 4)) (S (j * 4 + 1)) (S (j * 4 + 2)) (S (j * 4 + 3)) w)
  have CB := Lib.hid (fun w => place_b (S (j * 4)) (S (j * 4 + 1)) (S (j * 4 + 2)) (S (j * 4 + 3)) w)
  have L1 : Hid (∀ W, Below w.heap.size w W → (Instr.lookup 132 (.map (some bm)) (edV (S (j * 4)) (S (j * 4 + 1))) false).run Try.prog W = .ok (if edB n ms (S (j * 4)) (S (j * 4 + 1)) = true then ptr (P (endA S j)) else .pointer none) W) := Lib.hid fun W hb => by
    have hS := H.out.below hb
    have := hS.map.look law_ed Try.underlying132 (zeroP W) k1
    rw [hS.look hn hm w0 w1] at this
    exact this
  have L2 : Hid (∀ W, Below w.heap.size w W → (Instr.lookup 132 (.map (some bm)) (edV (S (j * 4 + 2)) (S (j * 4 + 3))) false).run Try.prog W = .ok (if edB n ms (S (j * 4 + 2)) (S (j * 4 + 3)) = true then ptr (P (endB S j)) else .pointer none) W) := Lib.hid fun W hb => by
    have hS := H.out.below hb
    have := hS.map.look law_ed Try.underlying132 (zeroP W) k2
    rw [hS.look hn hm w2 w3] at this
    exact this
  have SD : Hid (sdB n ms (S (j * 4)) (S (j * 4 + 1)) (S (j * 4 + 2)) (S (j * 4 + 3)) = (edB n ms (S (j * 4)) (S (j * 4 + 1)) && edB n ms (S (j * 4 + 2)) (S (j * 4 + 3)))) := Lib.hid rfl
  -- the ways out
  have OUT2 : Hid (sdB n ms (S (j * 4)) (S (j * 4 + 1)) (S (j * 4 + 2)) (S (j * 4 + 3)) = false → swC n ms S j = 2 ∧ swM n ms S j = mate S j) := Lib.hid fun h => by
    have : ¬ SwP n ms S j := fun q => by rw [q.1] at h; cases h
    unfold swC swM
    rw [if_neg this, if_neg this, h]
    exact ⟨rfl, rfl⟩
  have OUT9 : Hid (sdB n ms (S (j * 4)) (S (j * 4 + 1)) (S (j * 4 + 2)) (S (j * 4 + 3)) = true → ¬ SwP n ms S j → swC n ms S j = 9 ∧ swM n ms S j = mate S j) := Lib.hid fun h this => by
    unfold swC swM
    rw [if_neg this, if_neg this, if_pos h]
    exact ⟨rfl, rfl⟩
  have OUT0 : Hid (SwP n ms S j → swC n ms S j = 0 ∧ swM n ms S j = mate S (j + 1)) := Lib.hid fun this => by
    unfold swC swM
    rw [if_pos this, if_pos this]
    exact ⟨rfl, rfl⟩
  have EA : Hid (sdB n ms (S (j * 4)) (S (j * 4 + 1)) (S (j * 4 + 2)) (S (j * 4 + 3)) = true → (endA S j).1 < n ∧ (endA S j).2 < ms (endA S j).1 ∧ (endB S j).1 < n ∧ (endB S j).2 < ms (endB S j).1) := Lib.hid fun h => by
    have sd := sd_iff.1 h
    unfold endA endB; simp; omega
  have SWP : Hid (SwP n ms S j ↔ sdB n ms (S (j * 4)) (S (j * 4 + 1)) (S (j * 4 + 2)) (S (j * 4 + 3)) = true ∧ mate S j (endA S j) = none ∧ mate S j (endB S j) = none ∧ endA S j ≠ endB S j) := Lib.hid Iff.rfl
  have SN : Hid (∀ W, Surf B n ms ds rl (plc ms n) (mate S j) es bm P g W → SwP n ms S j → Surf B n ms ds rl (plc ms n) (mate S (j + 1)) es bm P g ((W.setCell ⟨P (endA S j), 4, none⟩ (ptr (P (endB S j)))).setCell ⟨P (endB S j), 4, none⟩ (ptr (P (endA S j))))) := Lib.hid fun W h1 h2 => h1.sewn h2
  clear h ka kb hw w0 w1 w2 w3 k1 k2
  unfold sfV seV
  unfold seV at CA CB
  unfold ptr at L1 L2 SN
  unfold edV at CA CB L1 L2
  generalize swC n ms S j = code at OUT2 OUT9 OUT0 ⊢
  generalize swM n ms S j = MM at OUT2 OUT9 OUT0 ⊢
  generalize sdB n ms (S (j * 4)) (S (j * 4 + 1)) (S (j * 4 + 2)) (S (j * 4 + 3)) = sd at SD OUT2 OUT9 EA SWP
  generalize edB n ms (S (j * 4)) (S (j * 4 + 1)) = r1 at L1 SD
  generalize edB n ms (S (j * 4 + 2)) (S (j * 4 + 3)) = r2 at L2 SD
  generalize S (j * 4) = s0, S (j * 4 + 1) = s1, S (j * 4 + 2) = s2, S (j * 4 + 3) = s3 at *
  generalize SwP n ms S j = SW at *
  generalize mate S (j + 1) = M1 at *
  generalize mate S j = M0 at *
  generalize endA S j = xa at *
  generalize endB S j = xb at *
  go_enter Try.func139, Try.ntmps139
  go_upto_region 1 with fail
  generalize hw0 : (w.alloc _).alloc _ = wz at KA KB BB ⊢
  clear hw0
  obtain ⟨a0, a1, a2, a3, a4⟩ : wz.cell? ⟨w.heap.size, 0, none⟩ = _ ∧ wz.cell? ⟨w.heap.size, 1, none⟩ = _ ∧ wz.cell? ⟨w.heap.size, 2, none⟩ = _ ∧ wz.cell? ⟨w.heap.size, 3, none⟩ = _ ∧ wz.cell? ⟨w.heap.size, 4, none⟩ = _ := ⟨cell_of_row _ _ _ _ _ _ KA.out, cell_of_row _ _ _ _ _ _ KA.out, cell_of_row _ _ _ _ _ _ KA.out, cell_of_row _ _ _ _ _ _ KA.out, cell_of_row _ _ _ _ _ _ KA.out⟩
  obtain ⟨b0, b1, b2, b3⟩ := blk4 KB.out
  have a4 := bey_cell (a4.trans rfl)
  have b0 := bey_cell b0
  have b1 := bey_cell b1
  have b2 := bey_cell b2
  have b3 := bey_cell b3
  have l1 := fun z : Beyond wz => L1.out z.to (below_then BB.out z.h)
  have l2 := fun z : Beyond wz => L2.out z.to (below_then BB.out z.h)
  clear a0 a1 a2 a3 L1 L2
  refine wp_region_below (by kernel_rfl) (by kernel_rfl) ?_
  repeat (go_big_quiet_step (first | (go_at_call 140; with_reducible exact bey_of _ (CA.out _)) | (go_at_call 141; with_reducible exact bey_of _ (CB.out _))))
  refine wpQuiet_nil ?_
  rintro _ ⟨pq, rfl⟩
  have HQ := Lib.hid (below_then BB.out pq.h)
  generalize pq.to = wq at HQ ⊢
  have HS := Lib.hid (H.out.below HQ.out)
  clear a4 b0 b1 b2 b3 l1 l2 CA CB H
  have HBB := Lib.hid (HQ.out.mono hB)
  have HKK := Lib.hid (Kept.of_below HQ.out)
  cases r1
  · obtain ⟨rfl, rfl⟩ := OUT2.out (by rw [SD.out]; rfl)
    clear OUT2 OUT9 OUT0 SWP SN EA
    cases r2
    all_goals
      go_wp2_with fail
      go_ret
      exact ⟨rfl, HBB.out, HKK, HS⟩
  cases r2
  · obtain ⟨rfl, rfl⟩ := OUT2.out (by rw [SD.out]; rfl)
    clear OUT2 OUT9 OUT0 SWP SN EA
    go_wp2_with fail
    go_ret
    exact ⟨rfl, HBB.out, HKK, HS⟩
  have hsd : sd = true := by rw [SD.out]; rfl
  obtain ⟨x1, x2, x3, x4⟩ := EA.out hsd
  have O9 := Lib.hid (OUT9.out hsd)
  have ea := (HS.out.edg xa x1 x2).1
  have eb := (HS.out.edg xb x3 x4).1
  have IJ := Lib.hid (fun e => HS.out.inj xa xb x1 x2 x3 x4 e)
  have PB := Lib.hid (And.intro (HS.out.edg xa x1 x2).2 (HS.out.edg xb x3 x4).2)
  have ya := cell_of_row _ _ 4 _ _ _ ea
  have yb := cell_of_row _ _ 4 _ _ _ eb
  have ya' : wq.cell? ⟨P xa, 4, none⟩ = some (.pointer (opA P M0 xa)) := ya.trans (congrArg some (op_eq P M0 xa))
  have yb' : wq.cell? ⟨P xb, 4, none⟩ = some (.pointer (opA P M0 xb)) := yb.trans (congrArg some (op_eq P M0 xb))
  have fa := blk_free ea 4
  have fb := blk_free eb 4
  have ia := Lib.hid (is_open (P xa) _ wq ya')
  have ib := Lib.hid (is_open (P xb) _ wq yb')
  rw [opA_none] at ia ib
  have SNq := Lib.hid (SN.out wq HS.out)
  have SWq : Hid (SW ↔ M0 xa = none ∧ M0 xb = none ∧ xa ≠ xb) := Lib.hid ⟨fun q => (SWP.out.1 q).2, fun q => SWP.out.2 ⟨hsd, q⟩⟩
  have HE1 := Lib.hid ea
  have HE2 := Lib.hid eb
  clear OUT2 OUT9 SWP SN EA ya yb ea eb SD
  go_wp2_with fail
  refine ia.out.mono ?_
  rintro e w' ⟨rfl, rfl⟩
  cases qa : M0 xa with
  | some y =>
    obtain ⟨rfl, rfl⟩ := O9.out (fun q => by have := (SWq.out.1 q).1; rw [qa] at this; cases this)
    clear O9 OUT0 SWq SNq
    go_wp2_with fail
    go_ret
    exact ⟨rfl, HBB.out, HKK, HS⟩
  | none =>
    go_wp2_with fail
    refine ib.out.mono ?_
    rintro e w' ⟨rfl, rfl⟩
    cases qb : M0 xb with
    | some y =>
      obtain ⟨rfl, rfl⟩ := O9.out (fun q => by have := (SWq.out.1 q).2.1; rw [qb] at this; cases this)
      clear O9 OUT0 SWq SNq
      go_wp2_with fail
      go_ret
      exact ⟨rfl, HBB.out, HKK, HS⟩
    | none =>
      by_cases qe : P xa = P xb
      · obtain ⟨rfl, rfl⟩ := O9.out (fun q => (SWq.out.1 q).2.2 (IJ.out qe))
        clear O9 OUT0 SWq SNq
        have hq : (binOp .eql 169 (.pointer (some ⟨P xa, 0, none⟩)) (.pointer (some ⟨P xb, 0, none⟩))).run Try.prog wq = .ok (.bool true) wq := by rw [qe]; exact ptr_same _ _
        have hq2 := ptr_same (P xb) wq
        clear qe
        go_wp2_with fail
        go_ret
        exact ⟨rfl, HBB.out, HKK, HS⟩
      · have hSW : SW := SWq.out.2 ⟨qa, qb, fun e => qe (by rw [e])⟩
        obtain ⟨rfl, rfl⟩ := OUT0.out hSW
        have HF := Lib.hid (SNq.out hSW)
        have HBF : Hid (Below B w ((wq.setCell ⟨P xa, 4, none⟩ (.pointer (some ⟨P xb, 0, none⟩))).setCell ⟨P xb, 4, none⟩ (.pointer (some ⟨P xa, 0, none⟩)))) := Lib.hid ((HBB.out.setCell PB.out.1 _).setCell PB.out.2 _)
        have HKF : Hid (Kept w ((wq.setCell ⟨P xa, 4, none⟩ (.pointer (some ⟨P xb, 0, none⟩))).setCell ⟨P xb, 4, none⟩ (.pointer (some ⟨P xa, 0, none⟩)))) := Lib.hid ((HKK.out.set HE1.out).set ((Below.heap_setCell _ _ _ _ (fun e => qe e.symm)).trans HE2.out))
        have yb2 : (wq.setCell ⟨P xa, 4, none⟩ (.pointer (some ⟨P xb, 0, none⟩))).cell? ⟨P xb, 4, none⟩ = some (.pointer (opA P M0 xb)) := (World.cell?_setCell_other _ _ _ _ (fun e => qe (Addr.mk.inj e).1)).trans yb'
        have hq := ptr_other wq qe HE1.out HE2.out
        clear O9 OUT0 SWq SNq
        go_wp2_with fail
        go_ret
        exact ⟨rfl, HBF.out, HKF, HF⟩
end Go.Proofs.Ytpmmfalpcooenab.Zc
