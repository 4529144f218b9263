/- The law DescCalls: descriptors, used elements and events are encoded and read as the document says. For every input; no condition. -/
import Derived.Test.YtkncaafjkoeijaaDescCallsW
namespace Go.Proofs.Ytkncaafjkoeijaa.DescCalls
open Go.ChangeShapes Go.WideShapes Go.ChangeAt Go.RowKit Le Rw DesPut DesTab DesArgs DescCallsW
set_option linter.unusedVariables false
set_option linter.unusedSimpArgs false

theorem walk (a l f x pa pl pf px wd : Int) (u : Value) (zs : List Int) (v : Value) (A : Option Addr) (n c : Nat) (d : D4) (fl : Int) (wr us : Bool) (w : World) (hA : DescIn a l f x) (hP : DescIn pa pl pf px) (hw : (Lit.int .u64 wd).wf = true) (hz : Args.IsInts w .u8 u zs) (hL : IsDescs w v A n c d) (hf : (Lit.int .u16 fl).wf = true) :
    Calls Try.prog 6 #[descV a l f x, descV pa pl pf px, .int .u64 wd, u, v, .int .u16 fl, .bool wr, .bool us] w (Lib.True1 w.heap.size w) := by
  obtain ⟨rfl, h1, h2, h3, h4⟩ := hL
  obtain ⟨B, cb, rfl, k1, k2, k3, k4, k5⟩ := open_u8s hz
  by_cases hm : 5000 < zs.length
  · exact walk_long a l f x pa pl pf px wd fl wr us B A _ cb n c w hm (by unfold maxLen at k2; omega)
  · by_cases hn : 300 < n
    · exact walk_many a l f x pa pl pf px wd fl wr us B A _ cb n c w (by omega) hn (by unfold maxLen at h2; omega)
    · exact walk_ok a l f x pa pl pf px wd fl wr us B A _ cb n c (fun j => zs.getD j 0) d w hA hP (bounds_u64 hw) (by omega) k1 k2 k4 (fun i hi => k5 _ (by show zs.getD i 0 ∈ zs; rw [List.getD_eq_getElem?_getD, List.getElem?_eq_getElem hi]; exact List.getElem_mem hi)) k3 (by omega) h3 h4

set_option maxRecDepth 100000 in
theorem lifted (os : Os) (started : os.Started) (H : Type) (enc : TypeId × Value → H) :
    ReturnsInHanded {} Try.checked os 6 .any (Rows.descCallsSpec.pre6 enc Try.prog Try.f6 Rows.descCallsRow.domain false) (Rows.descCallsSpec.post enc Try.prog Try.f6 false true false false) := by
  refine Lib.lifted (C := Try.checked) (tb := 4) H enc Lib.own started (by kernel_rfl) Try.func6
    (ChangeSpec.witness6 (enc := enc) (C := Try.checked) false ⟨#[], #[.agg #[.int .u64 0, .int .u32 0, .int .u16 0, .int .u16 0], .agg #[.int .u64 0, .int .u32 0, .int .u16 0, .int .u16 0], .int .u64 0, .slice none 0 0, .slice none 0 0, .int .u16 0, .bool false, .bool false], []⟩ 8 (by kernel_rfl) (by kernel_rfl) (by kernel_rfl) (by kernel_rfl))
    Lib.laidOut (Lib.readable_of (by kernel_rfl)) rfl Try.underlying4 rfl ?_ ?_
  · intro ds h
    match ds, h with
    | [_, _, _, _, _, _, _, _], _ => exact ⟨rfl, rfl, rfl⟩
  · intro W base args ds p hval hA hfz hlt
    rw [Try.params6] at hval
    have hA' : DataW.TrodAll enc Try.prog W 0 (fun _ => true) true Try.f6.params.toList args.toList ds p := hA
    rw [Try.params6] at hA'
    obtain ⟨v0, vs0, d0, ds0, p0, q0, hargs, rfl, rfl, h0, r0⟩ := trodAll_cons hA'
    obtain ⟨v1, vs1, d1, ds1, p1, q1, rfl, rfl, rfl, h1, r1⟩ := trodAll_cons r0
    obtain ⟨v2, vs2, d2, ds2, p2, q2, rfl, rfl, rfl, h2, r2⟩ := trodAll_cons r1
    obtain ⟨v3, vs3, d3, ds3, p3, q3, rfl, rfl, rfl, h3, r3⟩ := trodAll_cons r2
    obtain ⟨v4, vs4, d4, ds4, p4, q4, rfl, rfl, rfl, h4, r4⟩ := trodAll_cons r3
    obtain ⟨v5, vs5, d5, ds5, p5, q5, rfl, rfl, rfl, h5, r5⟩ := trodAll_cons r4
    obtain ⟨v6, vs6, d6, ds6, p6, q6, rfl, rfl, rfl, h6, r6⟩ := trodAll_cons r5
    obtain ⟨v7, vs7, d7, ds7, p7, q7, rfl, rfl, rfl, h7, r7⟩ := trodAll_cons r6
    obtain ⟨rfl, rfl, rfl⟩ := trodAll_nil r7
    obtain rfl : args = #[v0, v1, v2, v3, v4, v5, v6, v7] := by cases args; simp_all
    obtain ⟨a0_0, a0_1, a0_2, a0_3, rfl, w0⟩ := DesArgs.open_desc (hval 0 62 v0 rfl rfl) h0
    obtain ⟨a1_0, a1_1, a1_2, a1_3, rfl, w1⟩ := DesArgs.open_packed (hval 1 64 v1 rfl rfl) h1
    obtain ⟨a2, rfl, rfl, rfl, w2⟩ := open_int Try.underlying26 (hval 2 26 v2 rfl rfl) h2
    obtain ⟨zs3, w3⟩ := Args.open_ints Try.underlying37 Try.underlying5 (by kernel_rfl) (hval 3 37 v3 rfl rfl) h3 (fun x hx => hlt x (by simp [hx]))
    obtain ⟨a4_0, a4_1, a4_2, a4_3, w4⟩ := DesArgs.open_descs (hval 4 65 v4 rfl rfl) h4
    obtain ⟨a5, rfl, rfl, rfl, w5⟩ := open_int Try.underlying60 (hval 5 60 v5 rfl rfl) h5
    obtain ⟨a6, rfl, rfl, rfl⟩ := open_bool Try.underlying4 (hval 6 4 v6 rfl rfl) h6
    obtain ⟨a7, rfl, rfl, rfl⟩ := open_bool Try.underlying4 (hval 7 4 v7 rfl rfl) h7
    exact walk a0_0 a0_1 a0_2 a0_3 a1_0 a1_1 a1_2 a1_3 a2 v3 zs3 v4 a4_0 a4_1 a4_2 a4_3 a5 a6 a7 W w0 w1 w2 w3 w4 w5

theorem over : Rows.descCallsRow.holds Try.pinned (OpenSpec.ofChange Rows.descCallsSpec) :=
  OpenClaim.holds_of_wide 6 Try.f6 rfl rfl rfl rfl rfl rfl rfl ⟨rfl, rfl, rfl, rfl, rfl⟩ rfl rfl rfl rfl rfl (by kernel_rfl) Try.func6 (by kernel_rfl)
    (of_decide_eq_true (by kernel_rfl)) (by unfold Func.isWrapper; first | (rw [if_pos (by decide +kernel)]; kernel_rfl) | (rw [if_neg (by decide +kernel)]; exact ⟨rfl, rfl⟩))
    (fun os started H enc _ => lifted os started H enc)

/-- The statement. -/
theorem proved : Rows.DescCallsSaid :=
  over

end Go.Proofs.Ytkncaafjkoeijaa.DescCalls
