/- ValidPattern: the program's. -/
import Derived.Test.YtnojnikophpnoaaZdLib
namespace Go.Proofs.Ytnojnikophpnoaa.Vq
set_option linter.unusedVariables false
open Go.RowKit Go.Maps Ft Is Ge Qb Pt Pv Za Mm Zb Zc Zd

/-- What the program's surfaceOf tells, with the slice taken apart. -/
theorem SfAt.cases {A : Option Addr} {n c : Nat} {N : Nat → ByteArray} {ms : Nat → Nat} {ds : Nat → Nat → Int} {Y : Option Addr} {k sc : Nat} {S : Nat → Int} {o : Int} {w w' : World} {e : Ending} (h : SfAt A n c N ms ds Y k sc S o w e w') :
    Below w.heap.size w w' ∧ ((tv (PatP n N ms ds k S o) = false ∧ e = .returned (.tuple #[sfZ, .bool false])) ∨ (tv (PatP n N ms ds k S o) = true ∧ ∃ ea el ec bm P g, e = .returned (.tuple #[sfV A n c Y k sc o (.slice ea el ec) bm, .bool true]) ∧ Hid (Surf w.heap.size n ms ds (plc ms n) (plc ms n) (mate S k) (.slice ea el ec) bm P g w'))) := by
  obtain ⟨hb, h⟩ := h
  refine ⟨hb, ?_⟩
  rcases h with ⟨h1, h2⟩ | ⟨h1, es, bm, P, g, h2, h3⟩
  · exact .inl ⟨tv_no h1, h2⟩
  · obtain ⟨ea, el, ec, rfl⟩ := own_slice h3.out.row
    exact .inr ⟨tv_yes h1, ea, el, ec, bm, P, g, h2, h3⟩
set_option maxHeartbeats 1000000 in
theorem impl_vp (A : Option Addr) (n c : Nat) (N : Nat → ByteArray) (ms : Nat → Nat) (ds : Nat → Nat → Int) (Y : Option Addr) (k sc : Nat) (S : Nat → Int) (o : Int) (hz : Small n N ms k) (hw : ∀ i, i < k * 4 → (Lit.int .i64 (S i)).wf = true) (w : World) (h : PatR w A n N ms ds Y k S) :
    Calls Try.prog 19 #[paV A n c Y k sc o] w fun e' w' => e' = .returned (.bool (tv (PatP n N ms ds k S o))) ∧ Below w.heap.size w w' := by
  have HB := Lib.hid (below_box w (.cells #[.slice A n c, .slice Y k sc, .int .i64 o] 31))
  have C := Lib.hid ((surface_of A n c N ms ds Y k sc S o hz hw _ (h.below HB.out)).mono fun _ _ h => SfAt.cases h)
  clear h
  unfold paV
  unfold paV sfZ sfV at C
  generalize tv (PatP n N ms ds k S o) = r at C ⊢
  go_enter Try.func19, Try.ntmps19
  go_wp2_with fail
  refine C.out.mono ?_
  rintro e w1 ⟨b1, ⟨rfl, rfl⟩ | ⟨rfl, ea, el, ec, bm, P, g, rfl, _⟩⟩
  · have HQ := Lib.hid (below_then HB.out b1)
    clear b1 C
    go_wp2_with fail
    go_ret
    exact ⟨rfl, HQ.out.alloc HQ.out.size _⟩
  · have HQ := Lib.hid (below_then HB.out b1)
    clear b1 C
    go_wp2_with fail
    go_ret
    exact ⟨rfl, HQ.out.alloc HQ.out.size _⟩
end Go.Proofs.Ytnojnikophpnoaa.Vq
