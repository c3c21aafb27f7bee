/- Leathers: the program's GreatestPull and PullFor. -/
import Derived.Test.YtgclhkiiaclkgaaP4Lib
import Derived.Test.YtgclhkiiaclkgaaSeLib
namespace Go.Proofs.Ytgclhkiiaclkgaa.P6
set_option linter.unusedVariables false
open Go.RowKit Is Ge Qb Ja Jb Jc P1 P2 P3 P4
open Go.Proofs.Ytgclhkiiaclkgaa.Ba (inB below_then below_box blk1 blk2)

abbrev fnO (f : Value) : Obj := .cells #[f] 66
set_option maxHeartbeats 1000000 in
/-- What leastForce asks, of a method value. -/
theorem ask_m (g : Nat) (x : Value) (b : Nat) (i : Nat) (hi : i < 1001) (r : Bool) (w : World) (eg : ∀ args w, (callFunc g args).run Try.prog w = .ok (.enter g args) w) (hb : w.heap[b]? = some (fnO (.func (.func g) #[x] #[])))
    (hf : ∀ (W : World), Calls Try.prog g #[x, .int .i64 (i : Int)] W fun e w' => e = .returned (.bool r) ∧ Below W.heap.size W w') :
    Calls Try.prog 88 #[.int .i64 (i : Int), .pointer (some ⟨b, 0, none⟩)] w fun e w' => e = .returned (.bool r) ∧ Below w.heap.size w w' := by
  have HF := Lib.hid hf
  have z0 := blk1 hb
  have i0 : (0 : Int) ≤ (i : Int) := Int.natCast_nonneg _
  have i1 : (i : Int) ≤ 1000 := by omega
  clear hf hb
  go_enter Try.func88, Try.ntmps88
  go_wp2_with (go_at_fn g; refine (HF.out _).mono ?_; rintro e w2 ⟨rfl, b2⟩)
  have HQ := Lib.hid b2
  clear b2
  go_wp2_with fail
  go_ret
  exact ⟨rfl, HQ.out⟩
set_option maxHeartbeats 1000000 in
/-- leastForce of a method value. -/
theorem least_m (g : Nat) (x : Value) (c : Nat) (hc : c ≤ 1001) (w : World) (eg : ∀ args w, (callFunc g args).run Try.prog w = .ok (.enter g args) w)
    (hf : ∀ (W : World) (i : Nat), i < 1001 → Calls Try.prog g #[x, .int .i64 (i : Int)] W fun e w' => e = .returned (.bool (decide (c ≤ i))) ∧ Below W.heap.size W w') :
    Calls Try.prog 61 #[.func (.func g) #[x] #[]] w fun e w' => e = .returned (.int .i64 (c : Int)) ∧ Below w.heap.size w w' := by
  have HB := Lib.hid (below_box w (fnO (.func (.func g) #[x] #[])))
  have HX := Lib.hid (heap_alloc_new w (fnO (.func (.func g) #[x] #[])))
  have CS : Hid (∀ w0 : World, w0.heap[w.heap.size]? = some (fnO (.func (.func g) #[x] #[])) → Calls Try.prog 87 #[.int .i64 1001, .func (.func 88) #[] #[.pointer (some ⟨w.heap.size, 0, none⟩)]] w0 fun e w' => e = .returned (.int .i64 (c : Int)) ∧ Below w0.heap.size w0 w') := Lib.hid fun w0 hx =>
    Se.search_cl 88 #[.pointer (some ⟨w.heap.size, 0, none⟩)] 1001 c (by omega) hc w0 (Go.Proofs.enters_of Try.func88 (by kernel_rfl) rfl) fun W i hi hbel =>
      ask_m g x w.heap.size i hi (decide (c ≤ i)) W eg (Ge.blk_keep hbel hx) fun W => hf W i hi
  clear hf
  go_enter Try.func61, Try.ntmps61
  go_upto_region 1 with fail
  generalize hw9 : World.alloc _ _ = w0 at HB HX ⊢
  clear hw9
  have C1 := Lib.hid (CS.out _ HX.out)
  clear CS HX
  have c0 : (c : Int) ≤ 1001 := by omega
  have c1 : (0 : Int) ≤ (c : Int) := Int.natCast_nonneg _
  go_wp2_with fail
  refine C1.out.mono ?_
  rintro e w1 ⟨rfl, b1⟩
  have HQ := Lib.hid (below_then HB.out b1)
  clear b1
  go_wp2_with fail
  go_ret
  exact ⟨rfl, HQ.out⟩
theorem gpc_cases (a c s m d : Int) : (leB a c s m = false → gpC a c s m d = 1) ∧ (leB a c s m = true → dirB d = false → gpC a c s m d = 2) := by
  unfold gpC
  exact ⟨fun h => if_pos h, fun h h1 => by simp [h, h1]⟩
theorem gpc_ok {a c s m d : Int} (h : gpC a c s m d = 0) : (0 ≤ a ∧ a ≤ 100) ∧ (0 ≤ c ∧ c ≤ 100) ∧ (1 ≤ m ∧ m ≤ 500) ∧ (0 ≤ d ∧ d ≤ 4) := by
  unfold gpC at h
  split at h
  · omega
  · split at h
    · omega
    · rename_i h1 h2
      obtain ⟨q1, q2, _, q4⟩ := le_in (show leB a c s m = true by simpa using h1)
      exact ⟨q1, q2, q4, dir_in (by simpa using h2)⟩
set_option maxHeartbeats 1000000 in
theorem impl_gp (a c s m d : Int) (w : World) : Calls Try.prog 38 #[leV a c s m, .int .i64 d] w (IAt (gpV a c s m d) (gpC a c s m d) w) := by
  have BX := Lib.hid (Bx2.of w (leO a c s m) (coO a c s m d))
  have CC := Lib.hid (fun w => pull_none a c s m d w)
  have CL : Hid (gpC a c s m d = 0 → ∃ K : Nat, K ≤ 1001 ∧ gpV a c s m d = (K : Int) - 1 ∧ ∀ w, Calls Try.prog 61 #[.func (.func 65) #[coV a c s m d] #[]] w fun e w' => e = .returned (.int .i64 (K : Int)) ∧ Below w.heap.size w w') := Lib.hid fun h => by
    obtain ⟨h1, h2, h3, h4⟩ := gpc_ok h
    have hz := (gv_in h1 h2 h4).1
    have ht := fi_top (p := teB a c m d) (n := 1001) (k := 0)
    refine ⟨fi (teB a c m d) 0 1001, by omega, ?_, fun w => ?_⟩
    · rw [gp_is hz h3.1]
      unfold gpV
      rw [if_pos h]
    · refine least_m 65 (coV a c s m d) _ (by omega) w (Go.Proofs.enters_of Try.func65 (by kernel_rfl) rfl) fun W i hi => ?_
      rw [cut_at (te_mono hz) hi]
      exact itears a c s m d (i : Int) h1 h2 h3 h4 (by omega) W
  have V0 : Hid (¬ gpC a c s m d = 0 → gpV a c s m d = 0) := Lib.hid fun h => if_neg h
  unfold IAt
  generalize gpC a c s m d = C at CC CL V0 ⊢
  generalize gpV a c s m d = r at CL V0 ⊢
  go_enter Try.func38, Try.ntmps38
  go_upto_region 2 with fail
  generalize hw9 : World.alloc _ _ = w0 at BX ⊢
  clear hw9
  obtain ⟨z0, z1, z2, z3, z4⟩ := blk5 BX.out.frc
  go_wp2_with fail
  refine (CC.out _).mono ?_
  rintro e w1 ⟨rfl, b1⟩
  have BX1 := Lib.hid (BX.out.below b1)
  clear b1 BX CC z0 z1 z2 z3 z4
  by_cases h0 : C = 0
  rotate_left
  · have hne : (C != 0) = true := by simpa using h0
    have HR := Lib.hid (V0.out h0)
    clear V0 CL
    go_wp2_with fail
    exact bodyPost_ret (v := .tuple #[.int .i64 0, .int .i64 C]) (by simp [results, Try.results38, go_sem]) rfl ⟨by rw [HR.out], BX1.out.bel⟩
  subst h0
  obtain ⟨K, hK, hr, CK0⟩ := CL.out rfl
  have CK := Lib.hid CK0
  have HR := Lib.hid hr
  have c0 : (K : Int) ≤ 1001 := by omega
  have c1 : (0 : Int) ≤ (K : Int) := Int.natCast_nonneg _
  clear V0 CL CK0 hr hK
  obtain ⟨z0, z1, z2, z3, z4⟩ := blk5 BX1.out.frc
  go_wp2_with fail
  refine (CK.out _).mono ?_
  rintro e w2 ⟨rfl, b2⟩
  have HF := Lib.hid (below_then BX1.out.bel b2)
  clear b2 BX1 CK z0 z1 z2 z3 z4
  go_wp2_with fail
  exact bodyPost_ret (v := .tuple #[.int .i64 ((K : Int) - 1), .int .i64 0]) (by simp [results, Try.results38, go_sem]) rfl ⟨by rw [HR.out], HF.out⟩
abbrev inO (x : Int) : Obj := .cells #[.int .i64 x] 2
set_option maxHeartbeats 1000000 in
/-- What leastForce asks, of a closure over three boxes. -/
theorem ask_c (g : Nat) (x y z : Value) (b : Nat) (i : Nat) (hi : i < 1001) (r : Bool) (w : World) (eg : ∀ args w, (callFunc g args).run Try.prog w = .ok (.enter g args) w) (hb : w.heap[b]? = some (fnO (.func (.func g) #[] #[x, y, z])))
    (hf : Calls Try.prog g #[.int .i64 (i : Int), x, y, z] w fun e w' => e = .returned (.bool r) ∧ Below w.heap.size w w') :
    Calls Try.prog 88 #[.int .i64 (i : Int), .pointer (some ⟨b, 0, none⟩)] w fun e w' => e = .returned (.bool r) ∧ Below w.heap.size w w' := by
  have HF := Lib.hid hf
  have z0 := blk1 hb
  have i0 : (0 : Int) ≤ (i : Int) := Int.natCast_nonneg _
  have i1 : (i : Int) ≤ 1000 := by omega
  clear hf hb
  go_enter Try.func88, Try.ntmps88
  go_wp2_with (go_at_fn g; refine HF.out.mono ?_; rintro e w2 ⟨rfl, b2⟩)
  have HQ := Lib.hid b2
  clear b2
  go_wp2_with fail
  go_ret
  exact ⟨rfl, HQ.out⟩
set_option maxHeartbeats 1000000 in
/-- leastForce of a closure over three boxes. -/
theorem least_c (g : Nat) (x y z : Value) (c : Nat) (hc : c ≤ 1001) (w : World) (eg : ∀ args w, (callFunc g args).run Try.prog w = .ok (.enter g args) w)
    (hf : ∀ (W : World) (i : Nat), i < 1001 → Below w.heap.size w W → Calls Try.prog g #[.int .i64 (i : Int), x, y, z] W fun e w' => e = .returned (.bool (decide (c ≤ i))) ∧ Below W.heap.size W w') :
    Calls Try.prog 61 #[.func (.func g) #[] #[x, y, z]] w fun e w' => e = .returned (.int .i64 (c : Int)) ∧ Below w.heap.size w w' := by
  have HB := Lib.hid (below_box w (fnO (.func (.func g) #[] #[x, y, z])))
  have HX := Lib.hid (heap_alloc_new w (fnO (.func (.func g) #[] #[x, y, z])))
  have CS : Hid (∀ w0 : World, w0.heap[w.heap.size]? = some (fnO (.func (.func g) #[] #[x, y, z])) → Below w.heap.size w w0 → Calls Try.prog 87 #[.int .i64 1001, .func (.func 88) #[] #[.pointer (some ⟨w.heap.size, 0, none⟩)]] w0 fun e w' => e = .returned (.int .i64 (c : Int)) ∧ Below w0.heap.size w0 w') := Lib.hid fun w0 hx hbw =>
    Se.search_cl 88 #[.pointer (some ⟨w.heap.size, 0, none⟩)] 1001 c (by omega) hc w0 (Go.Proofs.enters_of Try.func88 (by kernel_rfl) rfl) fun W i hi hbel =>
      ask_c g x y z w.heap.size i hi (decide (c ≤ i)) W eg (Ge.blk_keep hbel hx) (hf W i hi (below_then hbw hbel))
  clear hf
  go_enter Try.func61, Try.ntmps61
  go_upto_region 1 with fail
  generalize hw9 : World.alloc _ _ = w0 at HB HX ⊢
  clear hw9
  have C1 := Lib.hid (CS.out _ HX.out HB.out)
  clear CS HX
  have c0 : (c : Int) ≤ 1001 := by omega
  have c1 : (0 : Int) ≤ (c : Int) := Int.natCast_nonneg _
  go_wp2_with fail
  refine C1.out.mono ?_
  rintro e w1 ⟨rfl, b1⟩
  have HQ := Lib.hid (below_then HB.out b1)
  clear b1
  go_wp2_with fail
  go_ret
  exact ⟨rfl, HQ.out⟩
/-- The blocks of PullFor. -/
structure Bx4 (w wr : World) (o o2 o3 o4 : Obj) : Prop where
  bel : Below w.heap.size w wr
  box : wr.heap[w.heap.size]? = some o
  ln : wr.heap[w.heap.size + 1]? = some o2
  wn : wr.heap[w.heap.size + 2]? = some o3
  cou : wr.heap[w.heap.size + 3]? = some o4
theorem Bx4.below {w wr w' : World} {o o2 o3 o4 : Obj} (h : Bx4 w wr o o2 o3 o4) (hb : Below wr.heap.size wr w') : Bx4 w w' o o2 o3 o4 := ⟨below_then h.bel hb, Ge.blk_keep hb h.box, Ge.blk_keep hb h.ln, Ge.blk_keep hb h.wn, Ge.blk_keep hb h.cou⟩
theorem Bx4.of (w : World) (o o2 o3 o4 : Obj) : Bx4 w ((((w.alloc o).alloc o2).alloc o3).alloc o4) o o2 o3 o4 := by
  have h := Bx3.of w o o2 o3
  have k := below_box (((w.alloc o).alloc o2).alloc o3) o4
  have e := heap_alloc_new (((w.alloc o).alloc o2).alloc o3) o4
  have hs : (((w.alloc o).alloc o2).alloc o3).heap.size = w.heap.size + 3 := by simp
  rw [hs] at e
  exact ⟨below_then h.bel k, Ge.blk_keep k h.box, Ge.blk_keep k h.frc, Ge.blk_keep k h.cou, e⟩
set_option maxHeartbeats 2000000 in
theorem happens (a c s m d n t : Int) (ha : 0 ≤ a ∧ a ≤ 100) (hc : 0 ≤ c ∧ c ≤ 100) (hd : 0 ≤ d ∧ d ≤ 4) (hn : 1 ≤ n ∧ n ≤ 10000) (ht : 1 ≤ t ∧ t ≤ 10000) (i : Nat) (hi : i < 1001) (b : Nat) (w : World) (h1 : w.heap[b]? = some (coO a c s m d)) (b2 : Nat) (h2 : w.heap[b2]? = some (inO n)) (b3 : Nat) (h3 : w.heap[b3]? = some (inO t)) :
    Calls Try.prog 62 #[.int .i64 (i : Int), .pointer (some ⟨b, 0, none⟩), .pointer (some ⟨b2, 0, none⟩), .pointer (some ⟨b3, 0, none⟩)] w fun e w' => e = .returned (.bool (hitB a c d n t i)) ∧ Below w.heap.size w w' := by
  have hi0 : (0 : Int) ≤ (i : Int) ∧ (i : Int) ≤ 1000 := by omega
  have CU := Lib.hid (fun w => iunder a c s m d n (i : Int) ha hc hd (by omega) hi0 w)
  have CW := Lib.hid (fun w => iwhole t w)
  have hs := st_in ha hc hd hi0
  have HE : Hid (hitB a c d n t i = decide (40000 * t ≤ n * (40000 + st a c d (i : Int)))) := Lib.hid rfl
  generalize hitB a c d n t i = hb at HE ⊢
  generalize st a c d (i : Int) = x at CU hs HE
  have p2 := prod_le (show 0 ≤ n ∧ n ≤ 10000 by omega) (show 0 ≤ 40000 + x ∧ 40000 + x ≤ 840000 by omega)
  generalize n * (40000 + x) = y at CU HE p2
  have CL := Lib.hid (fun w => iless y 40000 t 1 (by omega) (by omega) (by omega) (by omega) w)
  have HR : Hid (hb = !decide (y * 1 < t * 40000)) := Lib.hid (by
    rw [HE.out]
    by_cases h : 40000 * t ≤ y
    · rw [decide_eq_true h, decide_eq_false (by omega)]; rfl
    · rw [decide_eq_false h, decide_eq_true (by omega)]; rfl)
  generalize decide (y * 1 < t * 40000) = r at CL HR
  obtain ⟨z0, z1, z2, z3, z4⟩ := blk5 h1
  have y0 := blk1 h2
  have x0 := blk1 h3
  have CU1 := Lib.hid (fun p : Beyond w => CU.out p.to)
  have CW1 := Lib.hid (fun p : Beyond w => CW.out p.to)
  have CL1 := Lib.hid (fun p : Beyond w => CL.out p.to)
  have z0' := bey_cell z0
  have z1' := bey_cell z1
  have z2' := bey_cell z2
  have z3' := bey_cell z3
  have z4' := bey_cell z4
  have y0' := bey_cell y0
  have x0' := bey_cell x0
  clear z0 z1 z2 z3 z4 y0 x0 CU CW CL HE h1 h2 h3
  go_enter Try.func62, Try.ntmps62
  go_upto_region 1 with fail
  refine wp_region_below (by kernel_rfl) (by kernel_rfl) ?_
  repeat (go_big_quiet_step (first | (go_at_call 64; with_reducible exact bey_of _ (CW1.out _)) | (go_at_call 55; with_reducible exact bey_of _ (CU1.out _)) | (go_at_call 63; with_reducible exact bey_of _ (CL1.out _))))
  refine wpQuiet_nil ?_
  rintro _ ⟨pq, rfl⟩
  have HQ := Lib.hid pq.h
  generalize pq.to = wq at HQ ⊢
  go_wp2_with fail
  go_ret
  exact ⟨Ba.ret_bool HR.out.symm, HQ.out⟩
theorem puc_cases (a c s m d n t : Int) : (leB a c s m = false → puC a c s m d n t = 1 ∧ puV a c s m d n t = 0) ∧ (leB a c s m = true → arB d n t = false → puC a c s m d n t = 2 ∧ puV a c s m d n t = 0) ∧
    (leB a c s m = true → arB d n t = true → puK a c d n t = 1001 → puC a c s m d n t = 3 ∧ puV a c s m d n t = 0) ∧
    (leB a c s m = true → arB d n t = true → ¬ puK a c d n t = 1001 → (40 * m < st a c d (puK a c d n t : Int) → puC a c s m d n t = 10 ∧ puV a c s m d n t = 0) ∧ (¬ 40 * m < st a c d (puK a c d n t : Int) → puC a c s m d n t = 0 ∧ puV a c s m d n t = (puK a c d n t : Int))) := by
  refine ⟨fun h => ?_, fun h h1 => ?_, fun h h1 h2 => ?_, fun h h1 h2 => ⟨fun h3 => ?_, fun h3 => ?_⟩⟩
  · have e : puC a c s m d n t = 1 := if_pos h
    exact ⟨e, by unfold puV; rw [e]; rfl⟩
  · have e : puC a c s m d n t = 2 := by unfold puC; simp [h, h1]
    exact ⟨e, by unfold puV; rw [e]; rfl⟩
  · have e : puC a c s m d n t = 3 := by unfold puC; simp [h, h1, h2]
    exact ⟨e, by unfold puV; rw [e]; rfl⟩
  · have e : puC a c s m d n t = 10 := by unfold puC; simp [h, h1, h2, h3]
    exact ⟨e, by unfold puV; rw [e]; rfl⟩
  · have e : puC a c s m d n t = 0 := by unfold puC; simp [h, h1, h2, h3]
    exact ⟨e, by unfold puV; rw [if_pos e]⟩
set_option maxHeartbeats 2000000 in
theorem impl_pu (a c s m d n t : Int) (w : World) : Calls Try.prog 32 #[leV a c s m, .int .i64 d, .int .i64 n, .int .i64 t] w (IAt (puV a c s m d n t) (puC a c s m d n t) w) := by
  have BX := Lib.hid (Bx4.of w (leO a c s m) (inO n) (inO t) (coO a c s m d))
  have CC := Lib.hid (fun w => pull_two a c s m d n t w)
  obtain ⟨v0, v1, v2, v3⟩ := puc_cases a c s m d n t
  have V0 := Lib.hid v0
  have V1 := Lib.hid v1
  have V2 := Lib.hid v2
  have V3 := Lib.hid v3
  clear v0 v1 v2 v3
  have hk := fi_top (p := hitB a c d n t) (n := 1001) (k := 0)
  have HK : Hid (puK a c d n t ≤ 1001) := Lib.hid (by unfold puK; omega)
  have CL : Hid (leB a c s m = true → arB d n t = true → ∀ w0, Bx4 w w0 (leO a c s m) (inO n) (inO t) (coO a c s m d) → Calls Try.prog 61 #[.func (.func 62) #[] #[.pointer (some ⟨w.heap.size + 3, 0, none⟩), .pointer (some ⟨w.heap.size + 1, 0, none⟩), .pointer (some ⟨w.heap.size + 2, 0, none⟩)]] w0 fun e w' => e = .returned (.int .i64 (puK a c d n t : Int)) ∧ Below w0.heap.size w0 w') := Lib.hid fun h h1 w0 hx => by
    obtain ⟨q1, q2, _, q4⟩ := le_in h
    obtain ⟨p1, p2, p3⟩ := ar_in h1
    have hz := (gv_in q1 q2 p1).1
    refine least_c 62 _ _ _ _ HK.out w0 (Go.Proofs.enters_of Try.func62 (by kernel_rfl) rfl) fun W i hi hbel => ?_
    unfold puK
    rw [cut_at (hit_mono hz (by omega)) hi]
    have hx2 := hx.below hbel
    exact happens a c s m d n t q1 q2 p1 p2 p3 i hi _ W hx2.cou _ hx2.ln _ hx2.wn
  have CT : Hid (leB a c s m = true → arB d n t = true → ¬ puK a c d n t = 1001 → ∀ w, Calls Try.prog 65 #[coV a c s m d, .int .i64 (puK a c d n t : Int)] w fun e w' => e = .returned (.bool (decide (40 * m < st a c d (puK a c d n t : Int)))) ∧ Below w.heap.size w w') := Lib.hid fun h h1 h2 w => by
    obtain ⟨q1, q2, _, q4⟩ := le_in h
    obtain ⟨p1, p2, p3⟩ := ar_in h1
    have := HK.out
    exact itears a c s m d _ q1 q2 q4 p1 (by omega) w
  unfold IAt
  clear hk
  generalize puC a c s m d n t = rc at V0 V1 V2 V3 ⊢
  generalize puV a c s m d n t = rv at V0 V1 V2 V3 ⊢
  generalize st a c d (puK a c d n t : Int) = x at CT V3
  generalize puK a c d n t = K at CL CT V2 V3 HK
  generalize leB a c s m = ok at CC CL CT V0 V1 V2 V3
  generalize arB d n t = ab at CC CL CT V1 V2 V3
  go_enter Try.func32, Try.ntmps32
  go_upto_region 2 with fail
  generalize hw9 : World.alloc _ _ = w0 at BX ⊢
  clear hw9
  obtain ⟨z0, z1, z2, z3, z4⟩ := blk5 BX.out.cou
  have y0 := blk1 BX.out.ln
  have x0 := blk1 BX.out.wn
  go_wp2_with fail
  refine (CC.out _).mono ?_
  rintro e w1 ⟨rfl, b1⟩
  have BX1 := Lib.hid (BX.out.below b1)
  clear b1 BX CC z0 z1 z2 z3 z4 y0 x0
  cases ok
  · obtain ⟨r1, r2⟩ := V0.out rfl
    have R1 := Lib.hid r1
    have R2 := Lib.hid r2
    clear V0 V1 V2 V3 CL CT r1 r2 HK
    go_wp2_with fail
    exact bodyPost_ret (v := .tuple #[.int .i64 0, .int .i64 1]) (by simp [results, Try.results32, go_sem]) rfl ⟨by rw [R1.out, R2.out], BX1.out.bel⟩
  cases ab
  · obtain ⟨r1, r2⟩ := V1.out rfl rfl
    have R1 := Lib.hid r1
    have R2 := Lib.hid r2
    clear V0 V1 V2 V3 CL CT r1 r2 HK
    go_wp2_with fail
    exact bodyPost_ret (v := .tuple #[.int .i64 0, .int .i64 2]) (by simp [results, Try.results32, go_sem]) rfl ⟨by rw [R1.out, R2.out], BX1.out.bel⟩
  have CL1 := Lib.hid (CL.out rfl rfl _ BX1.out)
  have CT1 := Lib.hid (CT.out rfl rfl)
  have W2 := Lib.hid (V2.out rfl rfl)
  have W3 := Lib.hid (V3.out rfl rfl)
  have hk := HK.out
  have c1 : (0 : Int) ≤ (K : Int) := Int.natCast_nonneg _
  clear V0 V1 V2 V3 CL CT HK
  go_wp2_with fail
  refine CL1.out.mono ?_
  rintro e w2 ⟨rfl, b2⟩
  have BX2 := Lib.hid (BX1.out.below b2)
  clear b2 BX1 CL1
  by_cases h1 : K = 1001
  · obtain ⟨r1, r2⟩ := W2.out h1
    have R1 := Lib.hid r1
    have R2 := Lib.hid r2
    have g1 : (1000 : Int) < (K : Int) := by omega
    clear W2 W3 r1 r2 CT1
    go_wp2_with fail
    exact bodyPost_ret (v := .tuple #[.int .i64 0, .int .i64 3]) (by simp [results, Try.results32, go_sem]) rfl ⟨by rw [R1.out, R2.out], BX2.out.bel⟩
  have g1 : (K : Int) ≤ 1000 := by omega
  have W4 := Lib.hid (W3.out h1)
  have CT2 := Lib.hid (CT1.out h1)
  clear W2 W3 CT1
  obtain ⟨z0, z1, z2, z3, z4⟩ := blk5 BX2.out.cou
  by_cases hx : 40 * m < x
  · obtain ⟨r1, r2⟩ := W4.out.1 hx
    have R1 := Lib.hid r1
    have R2 := Lib.hid r2
    rw [decide_eq_true hx] at CT2
    clear W4 r1 r2
    go_wp2_with fail
    refine (CT2.out _).mono ?_
    rintro e w3 ⟨rfl, b3⟩
    have HQ := Lib.hid (below_then BX2.out.bel b3)
    clear b3
    go_wp2_with fail
    exact bodyPost_ret (v := .tuple #[.int .i64 0, .int .i64 10]) (by simp [results, Try.results32, go_sem]) rfl ⟨by rw [R1.out, R2.out], HQ.out⟩
  · obtain ⟨r1, r2⟩ := W4.out.2 (by omega)
    have R1 := Lib.hid r1
    have R2 := Lib.hid r2
    rw [decide_eq_false hx] at CT2
    clear W4 r1 r2
    go_wp2_with fail
    refine (CT2.out _).mono ?_
    rintro e w3 ⟨rfl, b3⟩
    have HQ := Lib.hid (below_then BX2.out.bel b3)
    clear b3
    go_wp2_with fail
    exact bodyPost_ret (v := .tuple #[.int .i64 (K : Int), .int .i64 0]) (by simp [results, Try.results32, go_sem]) rfl ⟨by rw [R1.out, R2.out], HQ.out⟩
end Go.Proofs.Ytgclhkiiaclkgaa.P6
