
/- Arguments that are lists of segments, opened; contracts with their answers named. -/
import Derived.Test.YtkejcdephnkkgaaSgLives
import Derived.Test.YtkejcdephnkkgaaMGm1
namespace Go.Proofs.Ytkejcdephnkkgaa.SgArgs
open Go.ChangeShapes Go.WideShapes Go.ChangeAt Go.RowKit Rw Sg SgCheck SgTotal SgCut SgMath
set_option linter.unusedVariables false
set_option linter.unusedSimpArgs false

theorem cSeg : Try.prog.cellsOf 73 = 3 := by kernel_rfl
def bOf : Value → Bool
  | .bool b => b
  | _ => false
/-- A list of segments. -/
structure IsSegs (W : World) (v : Value) (A : Option Addr) (c : Nat) (l : List S3) : Prop where
  val : v = .slice A l.length c
  le : l.length ≤ c
  max : c ≤ maxLen
  raw : ∀ x ∈ l, x.Raw
  lst : Lst W W.heap.size A l

set_option maxRecDepth 100000 in
theorem open_segs {H : Type} {enc : TypeId × Value → H} {W : World} {r : Reach} {b0 base : Nat} {spare : Nat → Bool} {held : Bool} {v : Value} {d : DataW H} {p : List MemPlace}
    (hv : Value.okWide Try.prog W r b0 23 v) (h : DataW.Trod enc Try.prog W base spare held 23 v d p) : ∃ A c l, IsSegs W v A c l := by
  obtain ⟨A, n, c, F, hv', hn, hc, hr, hf⟩ := Args.open_structs Try.underlying23 Try.underlying73 (by kernel_rfl) cSeg (by decide) hv h
  have t0 : ∀ i, i < n → F (i * 3) = .int .u64 (intOf (F (i * 3))) ∧ (Lit.int .u64 (intOf (F (i * 3)))).wf = true := fun i hi => by
    obtain ⟨m, y, hy⟩ := hf i hi 0 _ rfl
    exact Args.cell_int Try.underlying25 hy
  have t1 : ∀ i, i < n → F (i * 3 + 1) = .int .u32 (intOf (F (i * 3 + 1))) ∧ (Lit.int .u32 (intOf (F (i * 3 + 1)))).wf = true := fun i hi => by
    obtain ⟨m, y, hy⟩ := hf i hi 1 _ rfl
    exact Args.cell_int Try.underlying71 hy
  have t2 : ∀ i, i < n → F (i * 3 + 2) = .bool (bOf (F (i * 3 + 2))) := fun i hi => by
    obtain ⟨m, y, hy⟩ := hf i hi 2 _ rfl
    obtain ⟨q, e0, _⟩ := DataW.trod_bool Try.underlying4 hy
    simp at e0
    rw [e0]
    rfl
  have hl : ((List.range n).map fun i => (⟨intOf (F (i * 3)), intOf (F (i * 3 + 1)), bOf (F (i * 3 + 2))⟩ : S3)).length = n := by simp
  have ha : ∀ i, i < n → at_ ((List.range n).map fun i => (⟨intOf (F (i * 3)), intOf (F (i * 3 + 1)), bOf (F (i * 3 + 2))⟩ : S3)) i = ⟨intOf (F (i * 3)), intOf (F (i * 3 + 1)), bOf (F (i * 3 + 2))⟩ := fun i hi => by
    unfold at_
    simp [List.getD_eq_getElem?_getD, hi]
  refine ⟨A, c, (List.range n).map fun i => (⟨intOf (F (i * 3)), intOf (F (i * 3 + 1)), bOf (F (i * 3 + 2))⟩ : S3), by rw [hl]; exact hv', by rw [hl]; exact hn, hc, ?_, ?_⟩
  · intro x hx
    obtain ⟨i, hi, rfl⟩ := List.mem_map.1 hx
    have hi' : i < n := List.mem_range.1 hi
    obtain ⟨k1, k2⟩ := bounds_u64 (t0 i hi').2
    obtain ⟨k3, k4⟩ := bounds_u32 (t1 i hi').2
    exact ⟨k1, k2, k3, k4⟩
  · unfold Lst
    rw [hl]
    refine hr.congr fun j hj => ?_
    have hj' : j / 3 < n := Nat.div_lt_of_lt_mul (by rw [Nat.mul_comm]; exact hj)
    unfold cell
    rw [ha _ hj']
    split
    · have e : j / 3 * 3 = j := by omega
      have := (t0 (j / 3) hj').1
      rw [e] at this
      show F j = .int .u64 (intOf (F (j / 3 * 3)))
      rw [e]; exact this
    · split
      · have e : j / 3 * 3 + 1 = j := by omega
        have := (t1 (j / 3) hj').1
        rw [e] at this
        show F j = .int .u32 (intOf (F (j / 3 * 3 + 1)))
        rw [e]; exact this
      · have e : j / 3 * 3 + 2 = j := by omega
        have := t2 (j / 3) hj'
        rw [e] at this
        show F j = .bool (bOf (F (j / 3 * 3 + 2)))
        rw [e]; exact this

theorem Lst.on {w w' : World} {B : Nat} {A : Option Addr} {l : List S3} (h : Lst w B A l) (hB : B ≤ w.heap.size) (hb : Below w.heap.size w w') : Lst w' w'.heap.size A l :=
  (IsRow.below h (hb.mono hB)).more (Nat.le_trans hB hb.size)

theorem check_is {A : Option Addr} {c : Nat} {l : List S3} {e : Int} {w : World} (hn : l.length ≤ 1000000) (hraw : ∀ x ∈ l, x.Raw) (h : Lst w w.heap.size A l) (he : checkL l = e) :
    Calls Try.prog 14 #[.slice A l.length c] w fun r w' => r = .returned (.int .i64 e) ∧ Below w.heap.size w w' := he ▸ check_any A c l w (by omega) hraw h
theorem total_is {A : Option Addr} {c : Nat} {l : List S3} {R V : Int} {w : World} (hn : l.length ≤ 1000000) (hraw : ∀ x ∈ l, x.Raw) (h : Lst w w.heap.size A l) (hR : rd l = R) (hV : wr l = V) :
    Calls Try.prog 12 #[.slice A l.length c] w fun r w' => r = .returned (.tuple #[.int .u64 R, .int .u64 V]) ∧ Below w.heap.size w w' := by
  subst hR hV
  exact total_any A c l w (by omega) hraw h
theorem same_is {A A' : Option Addr} {c c' : Nat} {l o : List S3} {b : Bool} {w : World} (hn : l.length ≤ 1000000) (hn' : o.length ≤ 1000000) (h : Lst w w.heap.size A l) (h' : Lst w w.heap.size A' o) (hb : sameL l o = b) :
    Calls Try.prog 23 #[.slice A l.length c, .slice A' o.length c'] w fun r w' => r = .returned (.bool b) ∧ Below w.heap.size w w' := hb ▸ same_any A A' c c' l o w (by omega) (by omega) h h'
theorem cut_is {A : Option Addr} {c : Nat} {l C : List S3} {f n : Int} {w : World} (hn : l.length ≤ 1000000) (hraw : ∀ x ∈ l, x.Raw) (h : Lst w w.heap.size A l) (hf : 0 ≤ f ∧ f ≤ 18446744073709551615) (hk : 0 ≤ n ∧ n ≤ 18446744073709551615) (hC : cutL l f n = C) :
    Calls Try.prog 21 #[.slice A l.length c, .int .u64 f, .int .u64 n] w (SegsP C w) := hC ▸ cut_any A c l f n w hn hraw h hf.1 hf.2 hk.1 hk.2
theorem part_is {A : Option Addr} {c : Nat} {l C : List S3} {b : Bool} {w : World} (hn : l.length ≤ 1000000) (hraw : ∀ x ∈ l, x.Raw) (h : Lst w w.heap.size A l) (hC : partL l b = C) :
    Calls Try.prog 19 #[.slice A l.length c, .bool b] w (SegsP C w) := hC ▸ part_any A c l b w hn hraw h

end Go.Proofs.Ytkejcdephnkkgaa.SgArgs
