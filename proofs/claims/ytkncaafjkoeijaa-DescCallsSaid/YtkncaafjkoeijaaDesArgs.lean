
/- Arguments of the laws on descriptors, opened; bytes as a string. -/
import Derived.Test.YtkncaafjkoeijaaDesWord
import Derived.Test.YtkncaafjkoeijaaArgs2
import Derived.Laws.IdiomStrings
import Derived.Laws.BytesArg
namespace Go.Proofs.Ytkncaafjkoeijaa.DesArgs
open Go.ChangeShapes Go.WideShapes Go.ChangeAt Go.RowKit Le Rw DesPut DesTab
set_option linter.unusedVariables false
set_option linter.unusedSimpArgs false

theorem cDesc : Try.prog.cellsOf 62 = 4 := by kernel_rfl
theorem cPacked : Try.prog.cellsOf 64 = 4 := by kernel_rfl
theorem cUsed : Try.prog.cellsOf 74 = 2 := by kernel_rfl
theorem cEvent : Try.prog.cellsOf 77 = 2 := by kernel_rfl

set_option maxRecDepth 100000
section
variable {H : Type} {enc : TypeId × Value → H} {W : World} {r : Reach} {b0 base : Nat} {spare : Nat → Bool} {held : Bool} {v : Value} {d : DataW H} {p : List MemPlace}
theorem in_of {a l f x : Int} (wa : (Lit.int .u64 a).wf = true) (wl : (Lit.int .u32 l).wf = true) (wf : (Lit.int .u16 f).wf = true) (wx : (Lit.int .u16 x).wf = true) : DescIn a l f x := by
  have h1 := bounds_u64 wa
  have h2 := bounds_u32 wl
  have h3 := bounds_u16 wf
  have h4 := bounds_u16 wx
  exact ⟨h1.1, by omega, h2.1, by omega, h3.1, by omega, h4.1, by omega⟩
theorem open_desc (hv : Value.okWide Try.prog W r b0 62 v) (h : DataW.Trod enc Try.prog W base spare held 62 v d p) :
    ∃ a l f x : Int, v = descV a l f x ∧ DescIn a l f x := by
  obtain ⟨c0, c1, c2, c3, y0, y1, y2, y3, m, rfl, rfl, rfl, hy0, hy1, hy2, hy3⟩ := Joins.open_agg4 Try.underlying62 (by kernel_rfl) cDesc hv h
  obtain ⟨a, e0, rfl, wa⟩ := DataW.trod_int Try.underlying26 hy0
  obtain ⟨l, e1, rfl, wl⟩ := DataW.trod_int Try.underlying59 hy1
  obtain ⟨f, e2, rfl, wf⟩ := DataW.trod_int Try.underlying60 hy2
  obtain ⟨x, e3, rfl, wx⟩ := DataW.trod_int Try.underlying60 hy3
  simp at e0 e1 e2 e3
  subst e0 e1 e2 e3
  exact ⟨a, l, f, x, rfl, in_of wa wl wf wx⟩
theorem open_packed (hv : Value.okWide Try.prog W r b0 64 v) (h : DataW.Trod enc Try.prog W base spare held 64 v d p) :
    ∃ a l f x : Int, v = descV a l f x ∧ DescIn a l f x := by
  obtain ⟨c0, c1, c2, c3, y0, y1, y2, y3, m, rfl, rfl, rfl, hy0, hy1, hy2, hy3⟩ := Joins.open_agg4 Try.underlying64 (by kernel_rfl) cPacked hv h
  obtain ⟨a, e0, rfl, wa⟩ := DataW.trod_int Try.underlying26 hy0
  obtain ⟨l, e1, rfl, wl⟩ := DataW.trod_int Try.underlying59 hy1
  obtain ⟨f, e2, rfl, wf⟩ := DataW.trod_int Try.underlying60 hy2
  obtain ⟨x, e3, rfl, wx⟩ := DataW.trod_int Try.underlying60 hy3
  simp at e0 e1 e2 e3
  subst e0 e1 e2 e3
  exact ⟨a, l, f, x, rfl, in_of wa wl wf wx⟩
theorem open_used (hv : Value.okWide Try.prog W r b0 74 v) (h : DataW.Trod enc Try.prog W base spare held 74 v d p) :
    ∃ i n : Int, v = .agg #[.int .u32 i, .int .u32 n] ∧ (0 ≤ i ∧ i ≤ 4294967295) ∧ 0 ≤ n ∧ n ≤ 4294967295 := by
  obtain ⟨c0, c1, y0, y1, m, rfl, rfl, rfl, hy0, hy1⟩ := Joins.open_agg2 Try.underlying74 (by kernel_rfl) cUsed hv h
  obtain ⟨a, e0, rfl, wa⟩ := DataW.trod_int Try.underlying59 hy0
  obtain ⟨l, e1, rfl, wl⟩ := DataW.trod_int Try.underlying59 hy1
  simp at e0 e1
  subst e0 e1
  exact ⟨a, l, rfl, bounds_u32 wa, bounds_u32 wl⟩
theorem open_event (hv : Value.okWide Try.prog W r b0 77 v) (h : DataW.Trod enc Try.prog W base spare held 77 v d p) :
    ∃ i n : Int, v = .agg #[.int .u16 i, .int .u16 n] ∧ (0 ≤ i ∧ i ≤ 65535) ∧ 0 ≤ n ∧ n ≤ 65535 := by
  obtain ⟨c0, c1, y0, y1, m, rfl, rfl, rfl, hy0, hy1⟩ := Joins.open_agg2 Try.underlying77 (by kernel_rfl) cEvent hv h
  obtain ⟨a, e0, rfl, wa⟩ := DataW.trod_int Try.underlying60 hy0
  obtain ⟨l, e1, rfl, wl⟩ := DataW.trod_int Try.underlying60 hy1
  simp at e0 e1
  subst e0 e1
  exact ⟨a, l, rfl, bounds_u16 wa, bounds_u16 wl⟩

/-- A list of descriptors. -/
def IsDescs (W : World) (v : Value) (A : Option Addr) (n c : Nat) (d : D4) : Prop := v = .slice A n c ∧ n ≤ c ∧ c ≤ maxLen ∧ d.In n ∧ IsRow W W.heap.size 4 A n d.cell
theorem open_descs (hv : Value.okWide Try.prog W r b0 65 v) (h : DataW.Trod enc Try.prog W base spare held 65 v d p) : ∃ A n c D, IsDescs W v A n c D := by
  obtain ⟨A, n, c, F, hv', hn, hc, hr, hf⟩ := Args.open_structs Try.underlying65 Try.underlying62 (by kernel_rfl) cDesc (by decide) hv h
  have t0 : ∀ i, i < n → F (i * 4) = .int .u64 (intOf (F (i * 4))) ∧ (Lit.int .u64 (intOf (F (i * 4)))).wf = true := fun i hi => by
    obtain ⟨m, y, hy⟩ := hf i hi 0 _ rfl
    exact Args.cell_int Try.underlying26 hy
  have t1 : ∀ i, i < n → F (i * 4 + 1) = .int .u32 (intOf (F (i * 4 + 1))) ∧ (Lit.int .u32 (intOf (F (i * 4 + 1)))).wf = true := fun i hi => by
    obtain ⟨m, y, hy⟩ := hf i hi 1 _ rfl
    exact Args.cell_int Try.underlying59 hy
  have t2 : ∀ i, i < n → F (i * 4 + 2) = .int .u16 (intOf (F (i * 4 + 2))) ∧ (Lit.int .u16 (intOf (F (i * 4 + 2)))).wf = true := fun i hi => by
    obtain ⟨m, y, hy⟩ := hf i hi 2 _ rfl
    exact Args.cell_int Try.underlying60 hy
  have t3 : ∀ i, i < n → F (i * 4 + 3) = .int .u16 (intOf (F (i * 4 + 3))) ∧ (Lit.int .u16 (intOf (F (i * 4 + 3)))).wf = true := fun i hi => by
    obtain ⟨m, y, hy⟩ := hf i hi 3 _ rfl
    exact Args.cell_int Try.underlying60 hy
  refine ⟨A, n, c, ⟨fun i => intOf (F (i * 4)), fun i => intOf (F (i * 4 + 1)), fun i => intOf (F (i * 4 + 2)), fun i => intOf (F (i * 4 + 3))⟩, hv', hn, hc, fun i hi => in_of (t0 i hi).2 (t1 i hi).2 (t2 i hi).2 (t3 i hi).2, hr.congr fun j hj => ?_⟩
  have hj' : j / 4 < n := Nat.div_lt_of_lt_mul (by rw [Nat.mul_comm]; exact hj)
  unfold D4.cell
  split
  · have e : j / 4 * 4 = j := by omega
    have := (t0 (j / 4) hj').1
    rw [e] at this
    show F j = .int .u64 (intOf (F (j / 4 * 4)))
    rw [e]; exact this
  · split
    · have e : j / 4 * 4 + 1 = j := by omega
      have := (t1 (j / 4) hj').1
      rw [e] at this
      show F j = .int .u32 (intOf (F (j / 4 * 4 + 1)))
      rw [e]; exact this
    · split
      · have e : j / 4 * 4 + 2 = j := by omega
        have := (t2 (j / 4) hj').1
        rw [e] at this
        show F j = .int .u16 (intOf (F (j / 4 * 4 + 2)))
        rw [e]; exact this
      · have e : j / 4 * 4 + 3 = j := by omega
        have := (t3 (j / 4) hj').1
        rw [e] at this
        show F j = .int .u16 (intOf (F (j / 4 * 4 + 3)))
        rw [e]; exact this
end

/-- Bytes as a string. -/
def strOf (g : Nat → Int) (n : Nat) : ByteArray := ⟨((List.range n).map fun j => UInt8.ofNat (g j).toNat).toArray⟩
theorem run_str {P : Program} (src dst e : TypeId) (hs : P.underlying src = some (.slice e)) (he : P.underlying e = some (.int .u8)) (hd : P.underlying dst = some .string) (A : Option Addr) (n c B : Nat) (g : Nat → Int) (W : World) (hg : Bytes g n) (hr : IsRow W B 1 A n (u8F g)) :
    (convert src dst (.slice A n c)).run P W = .ok (.string (strOf g n)) W := by
  cases A with
  | none =>
    have h0 : n = 0 := by
      rcases Nat.eq_zero_or_pos n with h | h
      · exact h
      · obtain ⟨ad, e, _⟩ := hr h; cases e
    subst h0
    exact run_convert_bytes_nil (P := P) W src e hs he 0 c dst hd
  | some a =>
    have := run_convert_bytes_back (P := P) W src dst e a c ((List.range n).map fun j => UInt8.ofNat (g j).toNat) hs he hd (fun j hj => by
      have hj' : j < n := by simpa using hj
      obtain ⟨ad, e, _, hc⟩ := hr (by omega)
      cases e
      have hb := hg j hj'
      rw [hc j (by omega)]
      simp only [u8F, List.getElem_map, List.getElem_range]
      congr 2
      rw [UInt8.toNat_ofNat']; omega)
    simpa [strOf] using this
theorem str_inj {g h : Nat → Int} {n : Nat} (hg : Bytes g n) (hh : Bytes h n) (e : strOf g n = strOf h n) : ∀ j, j < n → g j = h j := fun j hj => by
  have e1 : ((List.range n).map fun j => UInt8.ofNat (g j).toNat) = (List.range n).map fun j => UInt8.ofNat (h j).toNat := by
    unfold strOf at e
    injection e with e
    exact List.toArray_inj e
  have e2 := congrArg (fun l => l[j]?) e1
  simp [hj] at e2
  have h1 := hg j hj
  have h2 := hh j hj
  have e3 := congrArg UInt8.toNat e2
  rw [UInt8.toNat_ofNat', UInt8.toNat_ofNat'] at e3
  omega
theorem desc_inj {a l f x a' l' f' x' : Int} (h : DescIn a l f x) (h' : DescIn a' l' f' x') (e : strOf (descG a l f x) 16 = strOf (descG a' l' f' x') 16) : a = a' ∧ l = l' ∧ f = f' ∧ x = x' := by
  have k := str_inj (descG_lo a l f x) (descG_lo a' l' f' x') e
  obtain ⟨p1, p2, p3, p4⟩ := f_desc a l f x h
  obtain ⟨q1, q2, q3, q4⟩ := f_desc a' l' f' x' h'
  refine ⟨?_, ?_, ?_, ?_⟩
  · rw [← p1, ← q1]; exact word_congr fun i hi => k i (by omega)
  · rw [← p2, ← q2]; exact word_congr fun i hi => k _ (by omega)
  · rw [← p3, ← q3]; exact word_congr fun i hi => k _ (by omega)
  · rw [← p4, ← q4]; exact word_congr fun i hi => k _ (by omega)

end Go.Proofs.Ytkncaafjkoeijaa.DesArgs
