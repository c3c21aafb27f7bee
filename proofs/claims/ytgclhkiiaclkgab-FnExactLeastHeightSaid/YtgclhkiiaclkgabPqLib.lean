/- Blocks on a roll: the program's BestRows and LeastHeight. -/
import Derived.Test.YtgclhkiiaclkgabPoLib
import Derived.Test.YtgclhkiiaclkgabPdLib
namespace Go.Proofs.Ytgclhkiiaclkgab.Pq
set_option linter.unusedVariables false
open Go.RowKit Is Ge Qb Jr Js Jt Ju Jw Jx Pa P5 Pb Pc Pd Pe Pf Pm Po
open N7 (put Bst Before Upto NF)
open N8 (mn vl)
open Go.Proofs.Ytgclhkiiaclkgab.Ba (inB below_then below_box)

theorem goes (gs : Nat) (A : Option Addr) (n c : Nat) (g : Nat → Int) (roll : Int) (hB : BlP roll n g) : ∀ (d k : Nat), k + d = n → ∀ (p b : Nat → Int) (wo : Int) (bf : Nat → Nat) (ls : Int) (w : World), Pre roll g k p → w.heap[gs]? = some (pkO A n c roll bf ls) → Bd n b wo bf ls → Bst n (vl g n) (Before n (N8.ok roll g) k p) b wo → Nums w gs A (n * 2) g →
    Calls Try.prog 98 #[.pointer (some ⟨gs, 0, none⟩), .int .i64 (k : Int), flV (fun z => rs p z k)] w (GoAt gs A n c roll g k p w)
  | 0, k, h => fun p b wo bf ls w h1 h2 h3 h4 h5 => gstep gs A n c g roll hB k (by omega) (fun hk => by omega) p b wo bf ls w h1 h2 h3 h4 h5
  | d + 1, k, h => fun p b wo bf ls w h1 h2 h3 h4 h5 => gstep gs A n c g roll hB k (by omega) (fun hk p b wo bf ls w h1 h2 h3 h4 h5 => by
      have e : (k : Int) + 1 = ((k + 1 : Nat) : Int) := by omega
      rw [e]
      exact goes gs A n c g roll hB d (k + 1) (by omega) p b wo bf ls w h1 h2 h3 h4 h5) p b wo bf ls w h1 h2 h3 h4 h5
/-- From nothing on. -/
theorem search (gs : Nat) (A : Option Addr) (n c : Nat) (g : Nat → Int) (roll : Int) (hB : BlP roll n g) (w : World) (hbox : w.heap[gs]? = some (pkO A n c roll (fun _ => 0) 45001)) (hA : Nums w gs A (n * 2) g) :
    Calls Try.prog 98 #[.pointer (some ⟨gs, 0, none⟩), .int .i64 0, flV (fun _ => 0)] w fun e w' => e = .returned (.tuple #[]) ∧ ∃ b, Hid (NF n (N8.ok roll g) b ∧ ∀ j, j < n → b j = brR roll n g j) ∧ Hid (w'.heap[gs]? = some (pkO A n c roll (fun z => rs b z n) (brW roll n g))) ∧ Hid (Bw.But gs w w') := by
  have h := goes gs A n c g roll hB n 0 (by omega) (fun _ => 0) (fun _ => 0) (-1) (fun _ => 0) 45001 w (fun j hj => by omega) hbox (.inl ⟨rfl, rfl⟩) N7.none_before hA
  refine Calls.mono (h : Calls Try.prog 98 #[.pointer (some ⟨gs, 0, none⟩), .int .i64 0, flV (fun _ => 0)] w _) ?_
  rintro e w' ⟨rfl, b, wo, bf, ls, HX, HD, HB, HU⟩
  have hb := N7.whole HB.out
  have k1 := best_some hB hb
  have k2 := br_is hB hb
  refine ⟨rfl, b, Lib.hid ⟨k1.1, k2.2⟩, Lib.hid ?_, HU⟩
  rcases HD.out with ⟨h1, _⟩ | ⟨h1, h2, h3⟩
  · have := k1.2.2; omega
  · have e3 : bf = fun z => rs b z n := funext h3
    rw [← e3, ← k2.1, ← h2]
    exact HX.out
theorem below12 {B : Nat} {w wr : World} (h : Below B w wr) {g : Nat} (hg : B ≤ g) (c0 c1 c2 c3 c4 c5 c6 c7 c8 c9 c10 c11 : Value) : Below B w ((((((((((((wr.setCell ⟨g, 0, none⟩ c0).setCell ⟨g, 1, none⟩ c1).setCell ⟨g, 2, none⟩ c2).setCell ⟨g, 3, none⟩ c3).setCell ⟨g, 4, none⟩ c4).setCell ⟨g, 5, none⟩ c5).setCell ⟨g, 6, none⟩ c6).setCell ⟨g, 7, none⟩ c7).setCell ⟨g, 8, none⟩ c8).setCell ⟨g, 9, none⟩ c9).setCell ⟨g, 10, none⟩ c10).setCell ⟨g, 11, none⟩ c11) :=
  Below.setCell (Below.setCell (Below.setCell (Below.setCell (Below.setCell (Below.setCell (Below.setCell (Below.setCell (Below.setCell (Below.setCell (Below.setCell (Below.setCell h hg _) hg _) hg _) hg _) hg _) hg _) hg _) hg _) hg _) hg _) hg _) hg _
abbrev pkV (A : Option Addr) (n c : Nat) (roll : Int) (f : Nat → Nat) (ls : Int) : Value := .agg #[.slice A n c, .int .i64 roll, .int .u16 (f 0 : Int), .int .u16 (f 1 : Int), .int .u16 (f 2 : Int), .int .u16 (f 3 : Int), .int .u16 (f 4 : Int), .int .u16 (f 5 : Int), .int .u16 (f 6 : Int), .int .u16 (f 7 : Int), .int .u16 (f 8 : Int), .int .i64 ls]
set_option maxRecDepth 100000 in
set_option maxHeartbeats 4000000 in
theorem ipack (A : Option Addr) (n c : Nat) (g : Nat → Int) (roll : Int) (hB : BlP roll n g) (w : World) (hA : Nums w w.heap.size A (n * 2) g) :
    Calls Try.prog 80 #[neV A n c roll] w fun e w' => ∃ b, e = .returned (pkV A n c roll (fun z => rs b z n) (brW roll n g)) ∧ Hid (NF n (N8.ok roll g) b ∧ ∀ j, j < n → b j = brR roll n g j) ∧ Hid (Below w.heap.size w w') := by
  have HA := Lib.hid hA
  have CS := Lib.hid (fun gs w h1 h2 => search gs A n c g roll hB w h1 h2)
  have BX := Lib.hid (Bx2.of w (neO A n c roll) (pkO none 0 0 0 (fun _ => 0) 0))
  generalize brW roll n g = ls at CS ⊢
  generalize brR roll n g = br at CS ⊢
  clear hA hB
  go_enter Try.func80, Try.ntmps80
  go_upto_region 1 with fail
  generalize hw9 : World.alloc _ _ = w1 at BX ⊢
  clear hw9
  obtain ⟨z0, z1⟩ := blk2 BX.out.box
  have BX1 := Lib.hid (BX.out.below (below_box w1 (pkO A n c roll (fun _ => 0) 45001)))
  have K1 := Lib.hid (heap_alloc_new w1 (pkO A n c roll (fun _ => 0) 45001))
  have hs1 := BX.out.bel.size
  have hr1 := Ge.lt_of_heap BX.out.res
  go_upto_region 2 with fail
  have hnb : Nums (w1.alloc (pkO A n c roll (fun _ => 0) 45001)) w1.heap.size A (n * 2) g := (HA.out.below BX1.out.bel (Nat.le_refl _)).more hs1
  have CS1 := Lib.hid (CS.out w1.heap.size _ K1.out hnb)
  clear hnb CS z0 z1 BX HA K1
  generalize hw9 : World.alloc _ _ = w2 at BX1 CS1 ⊢
  clear hw9
  have hs2 := BX1.out.bel.size
  generalize w1.heap.size = pb at *
  go_wp2_with fail
  refine CS1.out.mono ?_
  rintro e w3 ⟨rfl, b, HN, K3, HU⟩
  have B3 : Hid (Below w.heap.size w w3) := Lib.hid (BX1.out.bel.trans (HU.out.below hs1 hs2))
  have R3 := Lib.hid (Bw.blk_but BX1.out.res HU.out (by omega))
  have hfr := blk_free R3.out
  obtain ⟨z0, z1, z2, z3, z4, z5, z6, z7, z8, z9, z10, z11⟩ := blk12 R3.out
  obtain ⟨y0, y1, y2, y3, y4, y5, y6, y7, y8, y9, y10, y11⟩ := blk12 K3.out
  have hne : ¬ pb = w.heap.size + 1 := by omega
  clear CS1 BX1 HU K3 R3
  generalize hrb : w.heap.size + 1 = rb at *
  have hrb0 : w.heap.size ≤ rb := by omega
  go_wp2_with fail
  refine bodyPost_ret (v := pkV A n c roll (fun z => rs b z n) ls) (by simp [results, Try.results80, go_sem, z0, z1, z2, z3, z4, z5, z6, z7, z8, z9, z10, z11]) rfl ⟨b, rfl, HN, Lib.hid ?_⟩
  with_reducible exact below12 B3.out hrb0 _ _ _ _ _ _ _ _ _ _ _ _
theorem fld1 (A : Option Addr) (n c : Nat) (roll : Int) (f : Nat → Nat) (ls : Int) (w : World) : (Instr.field 92 (pkV A n c roll f ls) 1).run Try.prog w = .ok (flV f) w := by kernel_rfl
theorem fld2 (A : Option Addr) (n c : Nat) (roll : Int) (f : Nat → Nat) (ls : Int) (w : World) : (Instr.field 92 (pkV A n c roll f ls) 2).run Try.prog w = .ok (.int .i64 ls) w := by kernel_rfl
/-- The rows, and the length, as a law reads them. -/
noncomputable def BrAt (roll : Int) (n : Nat) (g : Nat → Int) : World → Ending → World → Prop := Ow.PairAt (rwN roll n g) (brR roll n g) (blC roll n g)
noncomputable def lhV (roll : Int) (n : Nat) (g : Nat → Int) : Int := if tv (BlP roll n g) = true then brW roll n g else 0
theorem at_best {w : World} {x n : Nat} {roll : Int} {g b br : Nat → Int} (h : BlP roll n g) (hb : NF n (N8.ok roll g) b) (he : ∀ j, j < n → b j = br j) (a : At w x n (fun j => lk (fun z => rs b z n) j 9)) : At w x n br :=
  ⟨a.1, fun j hj => by
    have h1 := a.2.1 j hj
    have h2 := best_in h hb j hj
    have h3 : lk (fun z => rs b z n) j 9 = b j := by
      have e : b j = (((b j).toNat : Nat) : Int) := by omega
      rw [lk_is (z := (b j).toNat) (by omega) fun k hk => ?_]
      · omega
      · show (rs b k n).testBit j = _
        rw [rs_bit]
        by_cases q : k = (b j).toNat
        · have q2 : b j = (k : Int) := by omega
          rw [decide_eq_true hj, decide_eq_true q2, decide_eq_true q]; rfl
        · have q2 : ¬ b j = (k : Int) := by omega
          rw [decide_eq_false q2, decide_eq_false q, Bool.and_false]
    change _ = some (Value.int .i64 (lk (fun z => rs b z n) j 9)) at h1
    rw [h3, he j hj] at h1
    exact h1, a.2.2⟩
set_option maxRecDepth 100000 in
set_option maxHeartbeats 2000000 in
theorem impl_br (A : Option Addr) (n c : Nat) (g : Nat → Int) (roll : Int) (hn : n ≤ 1048576) (w : World) (hA : Nums w w.heap.size A (n * 2) g) :
    Calls Try.prog 49 #[.slice A n c, .int .i64 roll] w (BrAt roll n g w) := by
  have HA := Lib.hid hA
  have CN := Lib.hid (inest A n c g roll hn w hA)
  have V0 : Hid (tv (BlP roll n g) = false → ∀ W, Below w.heap.size w W → BrAt roll n g w (.returned (.tuple #[.slice none 0 0, .int .i64 1])) W) := Lib.hid fun h W hb => by
    unfold BrAt rwN blC
    rw [if_neg (by rw [h]; simp), if_neg (by rw [h]; simp)]
    exact Ow.pair_no hb _
  have V1 : Hid (tv (BlP roll n g) = true → ∀ (W : World) (x : Nat), Below w.heap.size w W → w.heap.size ≤ x → At W x n (brR roll n g) → BrAt roll n g w (.returned (.tuple #[.slice (some ⟨x, 0, none⟩) n n, .int .i64 0])) W) := Lib.hid fun h W x hb hx ha => by
    unfold BrAt rwN blC
    rw [if_pos h, if_pos h]
    exact ⟨_, _, rfl, Lib.hid (own_at ha hx), hb⟩
  have CP := Lib.hid (fun (h : tv (BlP roll n g) = true) w hw => ipack A n c g roll (tv_iff.1 h) w hw)
  have CR := Lib.hid (fun (h : tv (BlP roll n g) = true) (b : Nat → Int) w => irows (fun z => rs b z n) n (fun z => rs_lt b z (tv_iff.1 h).1.2) (tv_iff.1 h).1.2 w)
  have AT := Lib.hid (fun (h : tv (BlP roll n g) = true) W x b (h1 : NF n (N8.ok roll g) b ∧ ∀ j, j < n → b j = brR roll n g j) ha => at_best (w := W) (x := x) (tv_iff.1 h) h1.1 h1.2 ha)
  clear hA
  unfold blC at CN
  generalize BrAt roll n g w = Q at V0 V1 ⊢
  generalize brR roll n g = br at *
  generalize brW roll n g = ls at *
  generalize tv (BlP roll n g) = ok at CN CP CR AT V0 V1
  cases ok
  · have V := Lib.hid (V0.out rfl)
    clear V0 V1 CP CR AT
    rw [if_neg (show ¬ false = true by simp), if_neg (show ¬ false = true by simp)] at CN
    go_enter Try.func49, Try.ntmps49
    go_wp2_with fail
    refine CN.out.mono ?_
    rintro e w1 ⟨rfl, b1⟩
    have HF := Lib.hid (V.out _ (below_then b1 (below_box w1 (neO none 0 0 0))))
    clear b1 CN HA V
    go_wp2_with fail
    exact HF.out
  have V := Lib.hid (V1.out rfl)
  have CP1 := Lib.hid (CP.out rfl)
  have CR1 := Lib.hid (CR.out rfl)
  have AT1 := Lib.hid (AT.out rfl)
  rw [if_pos rfl, if_pos rfl] at CN
  clear V0 V1 CP CR AT
  go_enter Try.func49, Try.ntmps49
  go_wp2_with fail
  refine CN.out.mono ?_
  rintro e w1 ⟨rfl, b1⟩
  have HB := Lib.hid (below_then b1 (below_box w1 (neO A n c roll)))
  have KN := Lib.hid (heap_alloc_new w1 (neO A n c roll))
  clear b1 CN
  go_upto_region 4 with fail
  generalize hw9 : World.alloc _ _ = w2 at HB KN ⊢
  clear hw9
  generalize w1.heap.size = gn at *
  obtain ⟨z0, z1⟩ := blk2 KN.out
  have CP2 := Lib.hid (CP1.out w2 ((HA.out.below HB.out (Nat.le_refl _)).more HB.out.size))
  clear KN HA CP1
  go_wp2_with fail
  refine CP2.out.mono ?_
  rintro e w3 ⟨b, rfl, HN, b3⟩
  have HB3 := Lib.hid (below_then HB.out b3.out)
  clear b3 CP2 HB z0 z1
  have fd := fld1 A n c roll (fun z => rs b z n) ls w3
  go_wp2_with fail
  refine (CR1.out b w3).mono ?_
  rintro e w4 ⟨rfl, b4, a4⟩
  have hs3 := HB3.out.size
  have HF := Lib.hid (V.out w4 (w3.heap.size + 1) (below_then HB3.out b4) (by omega) (AT1.out _ _ _ HN.out a4))
  clear b4 a4 HB3 CR1 AT1 V HN
  go_wp2_with fail
  exact HF.out
set_option maxRecDepth 100000 in
set_option maxHeartbeats 2000000 in
theorem impl_lh (A : Option Addr) (n c : Nat) (g : Nat → Int) (roll : Int) (hn : n ≤ 1048576) (w : World) (hA : Nums w w.heap.size A (n * 2) g) :
    Calls Try.prog 51 #[.slice A n c, .int .i64 roll] w (IAt (lhV roll n g) (blC roll n g) w) := by
  have HA := Lib.hid hA
  have CN := Lib.hid (inest A n c g roll hn w hA)
  have CP := Lib.hid (fun (h : tv (BlP roll n g) = true) w hw => ipack A n c g roll (tv_iff.1 h) w hw)
  clear hA
  unfold IAt lhV
  unfold blC at CN ⊢
  generalize brR roll n g = br at *
  generalize brW roll n g = ls at *
  generalize tv (BlP roll n g) = ok at *
  cases ok
  · clear CP
    rw [if_neg (show ¬ false = true by simp), if_neg (show ¬ false = true by simp)] at CN
    rw [if_neg (show ¬ false = true by simp), if_neg (show ¬ false = true by simp)]
    go_enter Try.func51, Try.ntmps51
    go_wp2_with fail
    refine CN.out.mono ?_
    rintro e w1 ⟨rfl, b1⟩
    have HB := Lib.hid (below_then b1 (below_box w1 (neO none 0 0 0)))
    clear b1 CN HA
    go_wp2_with fail
    exact bodyPost_ret (v := .tuple #[.int .i64 0, .int .i64 1]) (by simp [results, Try.results51, go_sem]) rfl ⟨rfl, HB.out⟩
  have CP1 := Lib.hid (CP.out rfl)
  rw [if_pos rfl, if_pos rfl] at CN
  rw [if_pos rfl, if_pos rfl]
  clear CP
  go_enter Try.func51, Try.ntmps51
  go_wp2_with fail
  refine CN.out.mono ?_
  rintro e w1 ⟨rfl, b1⟩
  have HB := Lib.hid (below_then b1 (below_box w1 (neO A n c roll)))
  have KN := Lib.hid (heap_alloc_new w1 (neO A n c roll))
  clear b1 CN
  go_upto_region 4 with fail
  generalize hw9 : World.alloc _ _ = w2 at HB KN ⊢
  clear hw9
  generalize w1.heap.size = gn at *
  obtain ⟨z0, z1⟩ := blk2 KN.out
  have CP2 := Lib.hid (CP1.out w2 ((HA.out.below HB.out (Nat.le_refl _)).more HB.out.size))
  clear KN HA CP1
  go_wp2_with fail
  refine CP2.out.mono ?_
  rintro e w3 ⟨b, rfl, HN, b3⟩
  have HB3 := Lib.hid (below_then HB.out b3.out)
  clear b3 CP2 HB z0 z1
  have fd := fld2 A n c roll (fun z => rs b z n) ls w3
  go_wp2_with fail
  exact bodyPost_ret (v := .tuple #[.int .i64 _, .int .i64 0]) (by simp [results, Try.results51, go_sem]) rfl ⟨rfl, HB3.out⟩
end Go.Proofs.Ytgclhkiiaclkgab.Pq
