/- Hides: the program's hideOf, and ValidHide. -/
import Derived.Test.YtongfgikkcieaaaT4Lib
import Derived.Test.YtongfgikkcieaaaBxLib
import Derived.BigRegion
namespace Go.Proofs.Ytongfgikkcieaaa.T5
set_option linter.unusedVariables false
open Go.RowKit Ft Is Ge Qb Hd Ts H2 T1 T2 T3 T4
open Go.Proofs.Ytongfgikkcieaaa.Nm (byt byt_of)

theorem bs_congr {p q : Nat → Bool} : ∀ {k : Nat}, (∀ t, t < k → p t = q t) → bs p k = bs q k
  | 0, _ => rfl
  | k + 1, h => by
    unfold bs
    rw [h k (by omega), bs_congr (k := k) fun t ht => h t (by omega)]
/-- The fields up to t that have at least a quality, and those while field t is being marked. -/
def zg (s : ByteArray) (t : Nat) (k : Nat) : Nat := bs (fun t => decide ((k : Int) ≤ qI (byt s t))) t
def zc (s : ByteArray) (t j k : Nat) : Nat := if k < j then zg s t k ||| 2 ^ t else zg s t k
theorem zc_0 (s : ByteArray) (t k : Nat) : zc s t 0 k = zg s t k := by unfold zc; rw [if_neg (by omega)]
theorem zc_end (s : ByteArray) {t j : Nat} (k : Nat) (h : qI (byt s t) + 1 = (j : Int)) : zc s t j k = zg s (t + 1) k := by
  unfold zc
  by_cases hk : k < j
  · rw [if_pos hk]
    unfold zg
    show _ = (if decide ((k : Int) ≤ qI (byt s t)) = true then _ else _)
    rw [if_pos (by simp; omega)]
  · rw [if_neg hk]
    unfold zg
    show _ = (if decide ((k : Int) ≤ qI (byt s t)) = true then _ else _)
    rw [if_neg (by simp; omega)]
theorem zc_same (s : ByteArray) {t j k : Nat} (h : k ≠ j) : zc s t (j + 1) k = zc s t j k := by
  unfold zc
  by_cases hk : k < j
  · rw [if_pos hk, if_pos (by omega)]
  · rw [if_neg hk, if_neg (by omega)]
theorem zc_next (s : ByteArray) (t j : Nat) : zc s t (j + 1) j = zc s t j j ||| 2 ^ t := by
  unfold zc
  rw [if_pos (by omega), if_neg (by omega)]
theorem zc_64 (s : ByteArray) {t : Nat} (j k : Nat) (ht : t < 64) : zc s t j k < 2 ^ 64 := by
  unfold zc
  have h1 : zg s t k < 2 ^ 64 := bs_64 _ (by omega)
  split
  · exact Nat.or_lt_two_pow h1 (Nat.pow_lt_pow_right (by omega) ht)
  · exact h1
theorem zg_gd {n : Nat} {f : Nat → ByteArray} (h : AlP n f) (k : Nat) : zg (jnS f n) (n * (f 0).size) k = gdN n (f 0).size (qf f) (k : Int) := by
  unfold zg gdN
  exact bs_congr fun t ht => by rw [qf_jn h ht]
/-- The hide of some rows. -/
noncomputable def hvV (n : Nat) (f : Nat → ByteArray) : Value := if tv (HideP n f) = true then hdV n (f 0).size (jnS f n) (gdN n (f 0).size (qf f) 0) (gdN n (f 0).size (qf f) 1) (gdN n (f 0).size (qf f) 2) (gdN n (f 0).size (qf f) 3) else hdV 0 0 ⟨#[]⟩ 0 0 0 0
def HoAt (n : Nat) (f : Nat → ByteArray) (w : World) (e : Ending) (w' : World) : Prop := e = .returned (.tuple #[hvV n f, .bool (tv (HideP n f))]) ∧ Below w.heap.size w w'
theorem alloc_hide (w : World) : (Instr.alloc 74 true (.tuple #[])).run Try.prog w = .ok (.pointer (some ⟨w.heap.size, 0, none⟩)) (w.alloc (.cells [.int .i64 0, .int .i64 0, .string ByteArray.empty, .int .u64 0, .int .u64 0, .int .u64 0, .int .u64 0].toArray 74)) := by kernel_rfl
theorem free_row {w : World} {g : Nat} {t : TypeId} {cs : Array Value} (h : w.heap[g]? = some (.cells cs t (0, 0))) (j : Nat) : w.frozen? ⟨g, j, none⟩ = false := by simp [World.frozen?, h]
theorem below7 {w w0 : World} (h : Below w.heap.size w w0) {g : Nat} (hg : w.heap.size ≤ g) (v0 v1 v2 v3 v4 v5 v6 : Value) :
    Below w.heap.size w (((((((w0.setCell ⟨g, 0, none⟩ v0).setCell ⟨g, 1, none⟩ v1).setCell ⟨g, 2, none⟩ v2).setCell ⟨g, 3, none⟩ v3).setCell ⟨g, 4, none⟩ v4).setCell ⟨g, 5, none⟩ v5).setCell ⟨g, 6, none⟩ v6) :=
  ((((((h.setCell (p := ⟨g, 0, none⟩) hg v0).setCell (p := ⟨g, 1, none⟩) hg v1).setCell (p := ⟨g, 2, none⟩) hg v2).setCell (p := ⟨g, 3, none⟩) hg v3).setCell (p := ⟨g, 4, none⟩) hg v4).setCell (p := ⟨g, 5, none⟩) hg v5).setCell (p := ⟨g, 6, none⟩) hg v6
/-- What stays while a hide is read: all that lay before, and both boxes. -/
structure Hb (w wr : World) (g : Nat) (o p : Obj) : Prop where
  bel : Below w.heap.size w wr
  res : wr.heap[w.heap.size]? = some o
  box : wr.heap[g]? = some p
  hg : w.heap.size < g
theorem Hb.below {w wr w' : World} {g : Nat} {o p : Obj} (h : Hb w wr g o p) (hb : Below wr.heap.size wr w') : Hb w w' g o p := ⟨below_then h.bel hb, blk_keep hb h.res, blk_keep hb h.box, h.hg⟩
theorem Hb.set {w wr : World} {g : Nat} {o : Obj} {t : TypeId} {cs : Array Value} (h : Hb w wr g o (.cells cs t (0, 0))) (i : Nat) (u : Value) : Hb w (wr.setCell ⟨g, i, none⟩ u) g o (.cells (cs.setIfInBounds i u) t (0, 0)) := by
  have hg := h.hg
  refine ⟨h.bel.setCell (p := ⟨g, i, none⟩) (by show w.heap.size ≤ g; omega) u, ?_, heap_set h.box i u, hg⟩
  exact (Below.heap_setCell _ _ _ _ (by show w.heap.size ≠ g; omega)).trans h.res
theorem Hb.drew {w wr : World} {g : Nat} {o p : Obj} (h : Hb w wr g o p) : Hb w wr.drew g o p := ⟨h.bel.drew, h.res, h.box, h.hg⟩
abbrev bx (n C : Nat) (s : ByteArray) (a b c d : Nat) : Obj := .cells #[.int .i64 (n : Int), .int .i64 (C : Int), .string s, .int .u64 (a : Int), .int .u64 (b : Int), .int .u64 (c : Int), .int .u64 (d : Int)] 74 (0, 0)
abbrev bz : Obj := .cells #[.int .i64 0, .int .i64 0, .string ⟨#[]⟩, .int .u64 0, .int .u64 0, .int .u64 0, .int .u64 0] 74 (0, 0)
set_option maxRecDepth 100000 in
set_option maxHeartbeats 1000000 in
theorem ihide (A : Option Addr) (n c : Nat) (f : Nat → ByteArray) (hn : n ≤ 1048576) (hs : ∀ i, i < n → (f i).size ≤ 1048576) (hcap : n ≤ c) (w : World) (hA : Txts w w.heap.size A n f) :
    Calls Try.prog 58 #[.slice A n c] w (HoAt n f w) := by
  have HA := Lib.hid hA
  have CA := Lib.hid (fun W (h : Below w.heap.size w W) => ialike A n c f hn hs W ((hA.below h (Nat.le_refl _)).more h.size))
  have V0 : Hid (tv (HideP n f) = false → ∀ W, Below w.heap.size w W → HoAt n f w (.returned (.tuple #[hdV 0 0 ⟨#[]⟩ 0 0 0 0, .bool false])) W) := Lib.hid fun h W hb => ⟨by unfold hvV; rw [h]; rfl, hb⟩
  have V1 : Hid (tv (HideP n f) = true → ∀ W, Below w.heap.size w W → HoAt n f w (.returned (.tuple #[hdV n (f 0).size (jnS f n) (gdN n (f 0).size (qf f) 0) (gdN n (f 0).size (qf f) 1) (gdN n (f 0).size (qf f) 2) (gdN n (f 0).size (qf f) 3), .bool true])) W) := Lib.hid fun h W hb => ⟨by unfold hvV; rw [h]; rfl, hb⟩
  generalize HoAt n f w = POST at V0 V1 ⊢
  have BX := Lib.hid (below_box w bz)
  have KX := Lib.hid (heap_alloc_new w bz)
  by_cases hal : tv (AlP n f) = false
  · rw [hal] at CA
    have hno : tv (HideP n f) = false := tv_no fun e => by rw [tv_yes (hide_al e)] at hal; cases hal
    have HF := Lib.hid (V0.out hno)
    clear V0 V1 hno hal HA hA
    have D := Lib.hid (CA.out _ BX.out)
    go_enter Try.func58, Try.ntmps58
    go_upto_region 1 with fail
    generalize hw0 : w.alloc _ = w0 at BX KX D ⊢
    clear hw0
    obtain ⟨z0, z1, z2, z3, z4, z5, z6⟩ := blk7 KX.out
    have hfr := free_row KX.out
    go_wp2_with fail
    refine (D.out).mono ?_
    rintro e w' ⟨rfl, rfl⟩
    go_wp2_with fail
    refine bodyPost_ret (v := .tuple #[hdV 0 0 ⟨#[]⟩ 0 0 0 0, .bool false]) (by simp [results, Try.results58, go_sem, z0, z1, z2, z3, z4, z5, z6]) rfl (HF.out _ ?_)
    exact below7 BX.out (Nat.le_refl _) _ _ _ _ _ _ _
  have hAl : AlP n f := tv_iff.1 (by simpa using hal)
  rw [tv_yes hAl] at CA
  have hC := hAl.2.2
  have hn6 := hAl.2.1
  have h36 : n * (f 0).size ≤ 6 * 6 := Nat.mul_le_mul hn6.2 hC.2
  have HI := Lib.hid (hide_iff hAl)
  have Z0 := zg_gd hAl 0
  have Z1 := zg_gd hAl 1
  have Z2 := zg_gd hAl 2
  have Z3 := zg_gd hAl 3
  have hjs := jn_size hAl.1
  obtain ⟨b, off, rfl, hb, hc⟩ := hA (by omega)
  have JN : Hid (∀ W, Below w.heap.size w W → Calls Try.prog 94 #[.slice (some ⟨b, off, none⟩) n c, .string ⟨#[]⟩] W fun e w' => e = .returned (.string (jnS f n)) ∧ Below W.heap.size W w') := Lib.hid fun W hW => by
    have e1 : ((List.range n).map f).length = n := by simp
    have e2 := join_jn f n
    have hl := jn_len hAl.1
    have h := Try.strings_Join b off c ((List.range n).map f) ⟨#[]⟩ W (fun j x hx => by
      rw [List.getElem?_map] at hx
      by_cases hj : j < n
      · rw [List.getElem?_range hj] at hx
        obtain rfl := Option.some.inj hx
        exact (hW.cell (p := ⟨b, off + j, none⟩) hb).trans (hc j hj)
      · rw [List.getElem?_eq_none (by simp; omega)] at hx; cases hx) (by have := hW.size; omega) (by rw [e1]; omega) (by rw [e1]; exact hcap) (by
        show (Lib.join _ []).length ≤ _
        rw [e2, hl]; omega)
    rw [e1] at h
    refine h.mono fun e w' ⟨he, hb⟩ => ⟨?_, hb⟩
    rw [he]
    show Ending.returned (.string ⟨(Lib.join _ []).toArray⟩) = _
    rw [e2]
    rfl
  have Y0 : Hid (∀ W, Below w.heap.size w W → W.cell? ⟨b, off, none⟩ = some (.string (f 0))) := Lib.hid fun W hW => by
    have := (hW.cell (p := ⟨b, off + 0, none⟩) hb).trans (hc 0 (by omega))
    rwa [Nat.add_zero] at this
  have V1b : Hid ((∀ t, t < (jnS f n).size → 0 ≤ qI (byt (jnS f n) t)) → ∀ W, Below w.heap.size w W → POST (.returned (.tuple #[hdV n (f 0).size (jnS f n) (zg (jnS f n) (jnS f n).size 0) (zg (jnS f n) (jnS f n).size 1) (zg (jnS f n) (jnS f n).size 2) (zg (jnS f n) (jnS f n).size 3), .bool true])) W) := Lib.hid fun h => by
    rw [hjs] at h ⊢
    have := V1.out (tv_yes (HI.out.2 h))
    rw [Z0, Z1, Z2, Z3]
    exact this
  have V0b : Hid (∀ t, t < (jnS f n).size → qI (byt (jnS f n) t) < 0 → ∀ W, Below w.heap.size w W → POST (.returned (.tuple #[hdV 0 0 ⟨#[]⟩ 0 0 0 0, .bool false])) W) := Lib.hid fun t ht h => V0.out (tv_no fun e => by
    have := HI.out.1 e t (by rw [← hjs]; exact ht)
    omega)
  have hsz : (jnS f n).size ≤ 36 := by rw [hjs]; omega
  have hfs := hs 0 (by omega)
  have e2 : (0 : Int) < (n : Int) := by omega
  have e3 : 0 < n := by omega
  clear V0 V1 HI Z0 Z1 Z2 Z3 hjs hal hAl hc hs HA hA
  generalize jnS f n = S at JN V0b V1b hsz
  generalize f 0 = s0 at JN Y0 V1b hC hfs h36
  have D := Lib.hid (CA.out _ BX.out)
  go_enter Try.func58, Try.ntmps58
  go_upto_region 1 with fail
  generalize hw0 : w.alloc _ = w0 at BX KX D ⊢
  clear hw0
  go_wp2_with fail
  refine (D.out).mono ?_
  rintro e w' ⟨rfl, rfl⟩
  clear D CA
  go_upto_region 3 with fail
  refine Bx.wp_region_box 9 10 (z := [.int .i64 0, .int .i64 0, .string ByteArray.empty, .int .u64 0, .int .u64 0, .int .u64 0, .int .u64 0]) (cs := [.int .i64 n, .int .i64 (s0.size : Int), .string S, .int .u64 0, .int .u64 0, .int .u64 0, .int .u64 0]) (by kernel_rfl) (by kernel_rfl) (by decide) rfl rfl rfl rfl rfl rfl rfl rfl (by simp only [Bx.without, List.take, List.drop, List.cons_append, List.nil_append, Nat.reduceSub]; exact rfl) (by kernel_rfl) alloc_hide rfl (by kernel_rfl) (by simp [Value.oneCell']) (by simp) ?_
  apply Exists.intro
  refine ⟨fun w' hw' => ?_, ⟨?_, ?_⟩, fun g w3 hg b3 k6 => ?_⟩
  · have JN1 := Lib.hid (fun p : Beyond w' => JN.out p.to (below_then BX.out (hw'.trans (p.h.mono hw'.size))))
    have y1 := bey_cell (Y0.out w' (below_then BX.out hw'))
    repeat (go_big_quiet_step ((go_at_call 94; with_reducible exact bey_of _ (JN1.out _))))
    exact wpQuiet_nil rfl
  · rfl
  · simp
  · have HB3 : Hid (Hb w w3 g bz (bx n s0.size S 0 0 0 0)) := Lib.hid ⟨below_then BX.out b3, blk_keep b3 KX.out, k6, by have := BX.out.size; have := lt_of_heap KX.out; omega⟩
    obtain ⟨a0, a1, a2, a3, a4, a5, a6⟩ := blk7 k6
    have SZ := Lib.hid (fun w => isize n s0.size S 0 0 0 0 w)
    clear b3 k6 KX BX JN Y0 hb
    simp only [Act.put, List.setIfInBounds_toArray, List.set_cons_succ, List.set_cons_zero]
    go_wp2_with fail
    refine (SZ.out _).mono ?_
    rintro e w4 ⟨rfl, b4⟩
    have HB4 := Lib.hid (HB3.out.below b4)
    clear b4 a0 a1 a2 a3 a4 a5 a6 SZ HB3
    go_wp2_with fail
    go_loopw [23] (fun x wr => ∃ t : Nat, t ≤ S.size ∧ x = .int .i64 (t : Int) ∧ Hid (Hb w wr g bz (bx n s0.size S (zg S t 0) (zg S t 1) (zg S t 2) (zg S t 3))) ∧ Hid (∀ j, j < t → 0 ≤ qI (byt S j))) (fun x _ => S.size - (intOf x).toNat)
    case atStart => exact ⟨0, Nat.zero_le _, rfl, HB4, Lib.hid fun j hj => by omega⟩
    case round =>
      obtain ⟨t, ht, rfl, HX, HQ⟩ := hrel
      have f0 : (0 : Int) ≤ (t : Int) := Int.natCast_nonneg _
      obtain ⟨a0, a1, a2, a3, a4, a5, a6⟩ := blk7 HX.out.box
      by_cases hlt : t < S.size
      · have f1 : (t : Int) < (S.size : Int) := by omega
        have ht1 : t + 1 ≤ S.size := by omega
        have IQ := Lib.hid (fun w => iq n s0.size S (zg S t 0) (zg S t 1) (zg S t 2) (zg S t 3) t hlt w)
        have HQ1 : Hid (0 ≤ qI (byt S t) → ∀ j, j < t + 1 → 0 ≤ qI (byt S j)) := Lib.hid fun h j hj => by
          by_cases e : j = t
          · subst e; exact h
          · exact HQ.out j (by omega)
        have V0t := Lib.hid (fun h => V0b.out t hlt h)
        have hin := qI_in (byt S t)
        have ZE := Lib.hid (fun j k h => zc_end S (t := t) (j := j) k h)
        have HX0 : Hid (∀ wv, Hb w wv g bz (bx n s0.size S (zg S t 0) (zg S t 1) (zg S t 2) (zg S t 3)) → Hb w wv g bz (bx n s0.size S (zc S t 0 0) (zc S t 0 1) (zc S t 0 2) (zc S t 0 3))) := Lib.hid fun wv h => by rw [zc_0, zc_0, zc_0, zc_0]; exact h
        generalize zg S t 0 = g0 at a3 IQ HX HX0
        generalize zg S t 1 = g1 at a4 IQ HX HX0
        generalize zg S t 2 = g2 at a5 IQ HX HX0
        generalize zg S t 3 = g3 at a6 IQ HX HX0
        generalize qI (byt S t) = q at IQ HQ1 V0t hin ZE
        clear HQ ht
        go_wp2_with fail
        refine (IQ.out _).mono ?_
        rintro e w5 ⟨rfl, b5⟩
        have HX5 := Lib.hid (HX.out.below b5)
        clear b5 a0 a1 a2 a3 a4 a5 a6 IQ HX
        by_cases hq : q < 0
        · have HF := Lib.hid (V0t.out hq)
          clear V0t V0b V1b HQ1 HX0 ZE
          obtain ⟨z0, z1, z2, z3, z4, z5, z6⟩ := blk7 HX5.out.res
          have hfr := free_row HX5.out.res
          go_wp2_with fail
          refine bodyPost_ret (v := .tuple #[hdV 0 0 ⟨#[]⟩ 0 0 0 0, .bool false]) (by simp [results, Try.results58, go_sem, z0, z1, z2, z3, z4, z5, z6]) rfl (HF.out _ ?_)
          exact below7 HX5.out.bel (Nat.le_refl _) _ _ _ _ _ _ _
        obtain ⟨m, rfl⟩ : ∃ m : Nat, q = (m : Int) := ⟨q.toNat, by omega⟩
        have hm3 : m ≤ 3 := by omega
        have HQ2 := Lib.hid (HQ1.out (by omega))
        have HX6 := Lib.hid (HX0.out _ HX5.out)
        have q1 : ¬ (m : Int) < 0 := hq
        clear hq HQ1 V0t HX0 HX5 hin
        go_wp2_with fail
        go_loopw [34] (fun x wv => ∃ j : Nat, j ≤ m + 1 ∧ x = .int .i64 (j : Int) ∧ Hid (Hb w wv g bz (bx n s0.size S (zc S t j 0) (zc S t j 1) (zc S t j 2) (zc S t j 3)))) (fun x _ => m + 1 - (intOf x).toNat)
        case atStart => exact ⟨0, Nat.zero_le _, rfl, HX6⟩
        case round =>
          obtain ⟨j, hj, rfl, HV⟩ := hrel
          have j0 : (0 : Int) ≤ (j : Int) := Int.natCast_nonneg _
          by_cases hjm : j < m + 1
          · have j1 : (j : Int) < (m : Int) + 1 := by omega
            have hj1 : j + 1 ≤ m + 1 := by omega
            have ht64 : t < 64 := by omega
            have j3 : j ≤ 3 := by omega
            obtain ⟨p2, hp, hpe⟩ : ∃ p2 : Nat, IntKind.u64.wrap ((2 : Int) ^ t) = (p2 : Int) ∧ p2 = 2 ^ t := ⟨2 ^ t, wrap_pow ht64, rfl⟩
            obtain ⟨nv, hnv, hne⟩ : ∃ nv : Nat, bits .or .u64 (zc S t j j : Int) (p2 : Int) = (nv : Int) ∧ zc S t (j + 1) j = nv := ⟨zc S t (j + 1) j, by
              rw [zc_next, hpe]
              exact bits_or_u64_nat _ _ (zc_64 S j j ht64) (pow_lt64 ht64), rfl⟩
            have NS := Lib.hid (fun k (h : k ≠ j) => zc_same S (t := t) (j := j) (k := k) h)
            have HNE := Lib.hid hne
            obtain ⟨a0, a1, a2, a3, a4, a5, a6⟩ := blk7 HV.out.box
            have hfr := free_row HV.out.box
            clear hpe hne hj ht64
            have hcase : j = 0 ∨ j = 1 ∨ j = 2 ∨ j = 3 := by omega
            rcases hcase with rfl | rfl | rfl | rfl
            · have REL : Hid (∀ wv, Hb w wv g bz (bx n s0.size S nv (zc S t 0 1) (zc S t 0 2) (zc S t 0 3)) → Hb w wv g bz (bx n s0.size S (zc S t (0 + 1) 0) (zc S t (0 + 1) 1) (zc S t (0 + 1) 2) (zc S t (0 + 1) 3))) := Lib.hid fun wv h => by
                rw [HNE.out, NS.out 1 (by omega), NS.out 2 (by omega), NS.out 3 (by omega)]
                exact h
              generalize zc S t 0 0 = v0 at a3 HV REL hnv
              generalize zc S t 0 1 = v1 at a4 HV REL
              generalize zc S t 0 2 = v2 at a5 HV REL
              generalize zc S t 0 3 = v3 at a6 HV REL
              have HZ : Hid (Hb w (wr.setCell ⟨g, 3, none⟩ (.int .u64 (nv : Int))) g bz (bx n s0.size S nv v1 v2 v3)) := Lib.hid (HV.out.set 3 (.int .u64 (nv : Int)))
              clear HV NS HNE
              go_upto_region 13 with fail
              go_region
              go_wp2_with fail
              go_roundw
              case rel => exact ⟨0 + 1, hj1, by go_num, Lib.hid (REL.out _ HZ.out.drew)⟩
              case measure => first | (simp [intOf]; omega) | simp [intOf]
            · have REL : Hid (∀ wv, Hb w wv g bz (bx n s0.size S (zc S t 1 0) nv (zc S t 1 2) (zc S t 1 3)) → Hb w wv g bz (bx n s0.size S (zc S t (1 + 1) 0) (zc S t (1 + 1) 1) (zc S t (1 + 1) 2) (zc S t (1 + 1) 3))) := Lib.hid fun wv h => by
                rw [NS.out 0 (by omega), HNE.out, NS.out 2 (by omega), NS.out 3 (by omega)]
                exact h
              generalize zc S t 1 0 = v0 at a3 HV REL
              generalize zc S t 1 1 = v1 at a4 HV REL hnv
              generalize zc S t 1 2 = v2 at a5 HV REL
              generalize zc S t 1 3 = v3 at a6 HV REL
              have HZ : Hid (Hb w (wr.setCell ⟨g, 4, none⟩ (.int .u64 (nv : Int))) g bz (bx n s0.size S v0 nv v2 v3)) := Lib.hid (HV.out.set 4 (.int .u64 (nv : Int)))
              clear HV NS HNE
              go_upto_region 13 with fail
              go_region
              go_wp2_with fail
              go_roundw
              case rel => exact ⟨1 + 1, hj1, by go_num, Lib.hid (REL.out _ HZ.out.drew)⟩
              case measure => first | (simp [intOf]; omega) | simp [intOf]
            · have REL : Hid (∀ wv, Hb w wv g bz (bx n s0.size S (zc S t 2 0) (zc S t 2 1) nv (zc S t 2 3)) → Hb w wv g bz (bx n s0.size S (zc S t (2 + 1) 0) (zc S t (2 + 1) 1) (zc S t (2 + 1) 2) (zc S t (2 + 1) 3))) := Lib.hid fun wv h => by
                rw [NS.out 0 (by omega), NS.out 1 (by omega), HNE.out, NS.out 3 (by omega)]
                exact h
              generalize zc S t 2 0 = v0 at a3 HV REL
              generalize zc S t 2 1 = v1 at a4 HV REL
              generalize zc S t 2 2 = v2 at a5 HV REL hnv
              generalize zc S t 2 3 = v3 at a6 HV REL
              have HZ : Hid (Hb w (wr.setCell ⟨g, 5, none⟩ (.int .u64 (nv : Int))) g bz (bx n s0.size S v0 v1 nv v3)) := Lib.hid (HV.out.set 5 (.int .u64 (nv : Int)))
              clear HV NS HNE
              go_upto_region 13 with fail
              go_region
              go_wp2_with fail
              go_roundw
              case rel => exact ⟨2 + 1, hj1, by go_num, Lib.hid (REL.out _ HZ.out.drew)⟩
              case measure => first | (simp [intOf]; omega) | simp [intOf]
            · have REL : Hid (∀ wv, Hb w wv g bz (bx n s0.size S (zc S t 3 0) (zc S t 3 1) (zc S t 3 2) nv) → Hb w wv g bz (bx n s0.size S (zc S t (3 + 1) 0) (zc S t (3 + 1) 1) (zc S t (3 + 1) 2) (zc S t (3 + 1) 3))) := Lib.hid fun wv h => by
                rw [NS.out 0 (by omega), NS.out 1 (by omega), NS.out 2 (by omega), HNE.out]
                exact h
              generalize zc S t 3 0 = v0 at a3 HV REL
              generalize zc S t 3 1 = v1 at a4 HV REL
              generalize zc S t 3 2 = v2 at a5 HV REL
              generalize zc S t 3 3 = v3 at a6 HV REL hnv
              have HZ : Hid (Hb w (wr.setCell ⟨g, 6, none⟩ (.int .u64 (nv : Int))) g bz (bx n s0.size S v0 v1 v2 nv)) := Lib.hid (HV.out.set 6 (.int .u64 (nv : Int)))
              clear HV NS HNE
              go_upto_region 13 with fail
              go_region
              go_wp2_with fail
              go_roundw
              case rel => exact ⟨3 + 1, hj1, by go_num, Lib.hid (REL.out _ HZ.out.drew)⟩
              case measure => first | (simp [intOf]; omega) | simp [intOf]
          · obtain rfl : j = m + 1 := by omega
            have HW := HV.out
            rw [ZE.out (m + 1) 0 (by omega), ZE.out (m + 1) 1 (by omega), ZE.out (m + 1) 2 (by omega), ZE.out (m + 1) 3 (by omega)] at HW
            have HW2 := Lib.hid HW
            clear HW HV ZE
            go_wp2_with fail
            go_roundw
            case rel => exact ⟨t + 1, ht1, by go_num, HW2, HQ2⟩
            case measure => simp [intOf]; omega
      · obtain rfl : t = S.size := by omega
        have HF := Lib.hid (V1b.out HQ.out)
        clear V0b V1b HQ
        obtain ⟨z0, z1, z2, z3, z4, z5, z6⟩ := blk7 HX.out.res
        have hfr := free_row HX.out.res
        generalize zg S S.size 0 = g0 at a3 HX HF
        generalize zg S S.size 1 = g1 at a4 HX HF
        generalize zg S S.size 2 = g2 at a5 HX HF
        generalize zg S S.size 3 = g3 at a6 HX HF
        go_wp2_with fail
        refine bodyPost_ret (v := .tuple #[hdV n s0.size S g0 g1 g2 g3, .bool true]) (by simp [results, Try.results58, go_sem, z0, z1, z2, z3, z4, z5, z6]) rfl (HF.out _ ?_)
        exact below7 HX.out.bel (Nat.le_refl _) _ _ _ _ _ _ _
theorem hv_form (n : Nat) (f : Nat → ByteArray) : ∃ (x0 x1 : Int) (x2 : ByteArray) (x3 x4 x5 x6 : Nat), hvV n f = hdV x0 x1 x2 x3 x4 x5 x6 := by
  unfold hvV
  split
  · exact ⟨_, _, _, _, _, _, _, rfl⟩
  · exact ⟨_, _, _, _, _, _, _, rfl⟩
abbrev bx0 (n C : Int) (s : ByteArray) (a b c d : Nat) : Obj := .cells #[.int .i64 n, .int .i64 C, .string s, .int .u64 (a : Int), .int .u64 (b : Int), .int .u64 (c : Int), .int .u64 (d : Int)] 74 (0, 0)
theorem impl_vh (A : Option Addr) (n c : Nat) (f : Nat → ByteArray) (hn : n ≤ 1048576) (hs : ∀ i, i < n → (f i).size ≤ 1048576) (hcap : n ≤ c) (w : World) (hA : Txts w w.heap.size A n f) :
    Calls Try.prog 18 #[.slice A n c] w fun e w' => e = .returned (.bool (tv (HideP n f))) ∧ Below w.heap.size w w' := by
  have C := Lib.hid (ihide A n c f hn hs hcap w hA)
  unfold HoAt at C
  obtain ⟨x0, x1, x2, x3, x4, x5, x6, hv⟩ := hv_form n f
  have HBX := Lib.hid (fun w => below_box w (bx0 x0 x1 x2 x3 x4 x5 x6))
  rw [hv] at C
  generalize tv (HideP n f) = r at C ⊢
  clear hA hv
  go_enter Try.func18, Try.ntmps18
  go_wp2_with fail
  refine C.out.mono ?_
  rintro e w1 ⟨rfl, b1⟩
  have HB := Lib.hid (below_then b1 (HBX.out w1))
  clear b1 C HBX
  go_wp2_with fail
  go_ret
  exact ⟨rfl, HB.out⟩
end Go.Proofs.Ytongfgikkcieaaa.T5
