/- The document's own descriptors as bytes: Bytes, PackedBytes, whatever the order of their loads. -/
import Derived.Test.YtkncaafjkoeijaaDesR1
import Derived.Deep.RegionHeld3
namespace Go.Proofs.Ytkncaafjkoeijaa.DesR2
open Go.RowKit Rw Le DesPut DesRead DesTab DesRT DesR1
set_option linter.unusedVariables false
set_option linter.unusedSimpArgs false

theorem own_nil (w : World) (B : Nat) : w.ownsRow B 5 1 (.slice none 0 0) 0 [] := ⟨rfl, .inl ⟨rfl, rfl⟩⟩

set_option maxRecDepth 100000 in
set_option maxHeartbeats 8000000 in
theorem r_bytes (a l f x : Int) (h : DescIn a l f x) (w : World) : Calls Try.prog 45 #[descV a l f x] w fun e w' => ∃ v, e = .returned v ∧ w'.ownsRow (w.heap.size + 1) 5 1 v 16 ((List.range 16).map (u8F (descG a l f x))) ∧ Below w.heap.size w w' := by
  have hb0 : Below w.heap.size w w := Below.refl _ _
  have H := Lib.hid h
  obtain ⟨q0, q1, q2, q3, q4, q5, q6, q7⟩ := h
  have ha : 0 ≤ a ∧ a ≤ 18446744073709551615 := ⟨q0, q1⟩
  have hl : 0 ≤ l ∧ l ≤ 18446744073709551615 := by omega
  have hf : 0 ≤ f ∧ f ≤ 18446744073709551615 := by omega
  have hx : 0 ≤ x ∧ x ≤ 18446744073709551615 := by omega
  have i1 : IntKind.u64.wrap l = l := by rw [IntKind.wrap_u64]; omega
  have i2 : IntKind.u64.wrap f = f := by rw [IntKind.wrap_u64]; omega
  have i3 : IntKind.u64.wrap x = x := by rw [IntKind.wrap_u64]; omega
  clear q0 q1 q2 q3 q4 q5 q6 q7
  go_enter Try.func45, Try.ntmps45
  go_wp2_with fail
  go_region_held3 (fun w' => w'.cell? ⟨w.heap.size, 0, none⟩ = some (.int .u64 a) ∧ w'.cell? ⟨w.heap.size, 1, none⟩ = some (.int .u32 l) ∧ w'.cell? ⟨w.heap.size, 2, none⟩ = some (.int .u16 f) ∧ w'.cell? ⟨w.heap.size, 3, none⟩ = some (.int .u16 x))
    (first
      | exact ⟨k40, k41, k42, k43⟩
      | exact ⟨k30, k31, k32, k33⟩
      | exact ⟨k20, k21, k22, k23⟩
      | exact ⟨k10, k11, k12, k13⟩
      | go_keep)
    (first
      | (go_at_call 108; refine (r_put (w.heap.size + 1) (0 + 8 + 4 + 2) 2 _ ([] ++ lows a 8 ++ lows l 4 ++ lows f 2) x _ ho3 (by omega) (by decide) (by decide) hx).mono ?_; rintro e W4 ⟨v4, rfl, ho4, hg4⟩; have k40 : W4.cell? ⟨w.heap.size, 0, none⟩ = some (.int .u64 a) := (hg4.cell (p := ⟨w.heap.size, 0, none⟩) (Nat.lt_succ_self _)).trans k30; have k41 : W4.cell? ⟨w.heap.size, 1, none⟩ = some (.int .u32 l) := (hg4.cell (p := ⟨w.heap.size, 1, none⟩) (Nat.lt_succ_self _)).trans k31; have k42 : W4.cell? ⟨w.heap.size, 2, none⟩ = some (.int .u16 f) := (hg4.cell (p := ⟨w.heap.size, 2, none⟩) (Nat.lt_succ_self _)).trans k32; have k43 : W4.cell? ⟨w.heap.size, 3, none⟩ = some (.int .u16 x) := (hg4.cell (p := ⟨w.heap.size, 3, none⟩) (Nat.lt_succ_self _)).trans k33; have z4 := hg4.size)
      | (go_at_call 108; refine (r_put (w.heap.size + 1) (0 + 8 + 4) 2 _ ([] ++ lows a 8 ++ lows l 4) f _ ho2 (by omega) (by decide) (by decide) hf).mono ?_; rintro e W3 ⟨v3, rfl, ho3, hg3⟩; have k30 : W3.cell? ⟨w.heap.size, 0, none⟩ = some (.int .u64 a) := (hg3.cell (p := ⟨w.heap.size, 0, none⟩) (Nat.lt_succ_self _)).trans k20; have k31 : W3.cell? ⟨w.heap.size, 1, none⟩ = some (.int .u32 l) := (hg3.cell (p := ⟨w.heap.size, 1, none⟩) (Nat.lt_succ_self _)).trans k21; have k32 : W3.cell? ⟨w.heap.size, 2, none⟩ = some (.int .u16 f) := (hg3.cell (p := ⟨w.heap.size, 2, none⟩) (Nat.lt_succ_self _)).trans k22; have k33 : W3.cell? ⟨w.heap.size, 3, none⟩ = some (.int .u16 x) := (hg3.cell (p := ⟨w.heap.size, 3, none⟩) (Nat.lt_succ_self _)).trans k23; have z3 := hg3.size)
      | (go_at_call 108; refine (r_put (w.heap.size + 1) (0 + 8) 4 _ ([] ++ lows a 8) l _ ho1 (by omega) (by decide) (by decide) hl).mono ?_; rintro e W2 ⟨v2, rfl, ho2, hg2⟩; have k20 : W2.cell? ⟨w.heap.size, 0, none⟩ = some (.int .u64 a) := (hg2.cell (p := ⟨w.heap.size, 0, none⟩) (Nat.lt_succ_self _)).trans k10; have k21 : W2.cell? ⟨w.heap.size, 1, none⟩ = some (.int .u32 l) := (hg2.cell (p := ⟨w.heap.size, 1, none⟩) (Nat.lt_succ_self _)).trans k11; have k22 : W2.cell? ⟨w.heap.size, 2, none⟩ = some (.int .u16 f) := (hg2.cell (p := ⟨w.heap.size, 2, none⟩) (Nat.lt_succ_self _)).trans k12; have k23 : W2.cell? ⟨w.heap.size, 3, none⟩ = some (.int .u16 x) := (hg2.cell (p := ⟨w.heap.size, 3, none⟩) (Nat.lt_succ_self _)).trans k13; have z2 := hg2.size)
      | (go_at_call 108; refine (r_put (w.heap.size + 1) (0) 8 _ ([]) a _ (own_nil _ _) (by simp) (by decide) (by decide) ha).mono ?_; rintro e W1 ⟨v1, rfl, ho1, hg1⟩; have k10 : W1.cell? ⟨w.heap.size, 0, none⟩ = some (.int .u64 a) := (hg1.cell (p := ⟨w.heap.size, 0, none⟩) (Nat.lt_succ_self _)).trans (by go_cell); have k11 : W1.cell? ⟨w.heap.size, 1, none⟩ = some (.int .u32 l) := (hg1.cell (p := ⟨w.heap.size, 1, none⟩) (Nat.lt_succ_self _)).trans (by go_cell); have k12 : W1.cell? ⟨w.heap.size, 2, none⟩ = some (.int .u16 f) := (hg1.cell (p := ⟨w.heap.size, 2, none⟩) (Nat.lt_succ_self _)).trans (by go_cell); have k13 : W1.cell? ⟨w.heap.size, 3, none⟩ = some (.int .u16 x) := (hg1.cell (p := ⟨w.heap.size, 3, none⟩) (Nat.lt_succ_self _)).trans (by go_cell); have z1 := hg1.size; try simp only [World.size_alloc, World.size_drew] at z1))
  go_wp2_with fail
  go_ret
  refine ⟨v4, rfl, ?_, (show Below w.heap.size w _ by go_grown).trans ((hg1.mono (Nat.le_succ _)).trans ((hg2.mono (Nat.le_succ _)).trans ((hg3.mono (Nat.le_succ _)).trans (hg4.mono (Nat.le_succ _)))))⟩
  have e : (List.range 16).map (u8F (descG a l f x)) = [] ++ lows a 8 ++ lows l 4 ++ lows f 2 ++ lows x 2 := rfl
  rw [e]
  exact ho4
set_option maxRecDepth 100000 in
set_option maxHeartbeats 8000000 in
theorem r_pbytes (a l f x : Int) (h : DescIn a l f x) (w : World) : Calls Try.prog 47 #[descV a l f x] w fun e w' => ∃ v, e = .returned v ∧ w'.ownsRow (w.heap.size + 1) 5 1 v 16 ((List.range 16).map (u8F (descG a l f x))) ∧ Below w.heap.size w w' := by
  have hb0 : Below w.heap.size w w := Below.refl _ _
  have H := Lib.hid h
  obtain ⟨q0, q1, q2, q3, q4, q5, q6, q7⟩ := h
  have ha : 0 ≤ a ∧ a ≤ 18446744073709551615 := ⟨q0, q1⟩
  have hl : 0 ≤ l ∧ l ≤ 18446744073709551615 := by omega
  have hf : 0 ≤ f ∧ f ≤ 18446744073709551615 := by omega
  have hx : 0 ≤ x ∧ x ≤ 18446744073709551615 := by omega
  have i1 : IntKind.u64.wrap l = l := by rw [IntKind.wrap_u64]; omega
  have i2 : IntKind.u64.wrap f = f := by rw [IntKind.wrap_u64]; omega
  have i3 : IntKind.u64.wrap x = x := by rw [IntKind.wrap_u64]; omega
  clear q0 q1 q2 q3 q4 q5 q6 q7
  go_enter Try.func47, Try.ntmps47
  go_wp2_with fail
  go_region_held3 (fun w' => w'.cell? ⟨w.heap.size, 0, none⟩ = some (.int .u64 a) ∧ w'.cell? ⟨w.heap.size, 1, none⟩ = some (.int .u32 l) ∧ w'.cell? ⟨w.heap.size, 2, none⟩ = some (.int .u16 f) ∧ w'.cell? ⟨w.heap.size, 3, none⟩ = some (.int .u16 x))
    (first
      | exact ⟨k40, k41, k42, k43⟩
      | exact ⟨k30, k31, k32, k33⟩
      | exact ⟨k20, k21, k22, k23⟩
      | exact ⟨k10, k11, k12, k13⟩
      | go_keep)
    (first
      | (go_at_call 108; refine (r_put (w.heap.size + 1) (0 + 8 + 4 + 2) 2 _ ([] ++ lows a 8 ++ lows l 4 ++ lows f 2) x _ ho3 (by omega) (by decide) (by decide) hx).mono ?_; rintro e W4 ⟨v4, rfl, ho4, hg4⟩; have k40 : W4.cell? ⟨w.heap.size, 0, none⟩ = some (.int .u64 a) := (hg4.cell (p := ⟨w.heap.size, 0, none⟩) (Nat.lt_succ_self _)).trans k30; have k41 : W4.cell? ⟨w.heap.size, 1, none⟩ = some (.int .u32 l) := (hg4.cell (p := ⟨w.heap.size, 1, none⟩) (Nat.lt_succ_self _)).trans k31; have k42 : W4.cell? ⟨w.heap.size, 2, none⟩ = some (.int .u16 f) := (hg4.cell (p := ⟨w.heap.size, 2, none⟩) (Nat.lt_succ_self _)).trans k32; have k43 : W4.cell? ⟨w.heap.size, 3, none⟩ = some (.int .u16 x) := (hg4.cell (p := ⟨w.heap.size, 3, none⟩) (Nat.lt_succ_self _)).trans k33; have z4 := hg4.size)
      | (go_at_call 108; refine (r_put (w.heap.size + 1) (0 + 8 + 4) 2 _ ([] ++ lows a 8 ++ lows l 4) f _ ho2 (by omega) (by decide) (by decide) hf).mono ?_; rintro e W3 ⟨v3, rfl, ho3, hg3⟩; have k30 : W3.cell? ⟨w.heap.size, 0, none⟩ = some (.int .u64 a) := (hg3.cell (p := ⟨w.heap.size, 0, none⟩) (Nat.lt_succ_self _)).trans k20; have k31 : W3.cell? ⟨w.heap.size, 1, none⟩ = some (.int .u32 l) := (hg3.cell (p := ⟨w.heap.size, 1, none⟩) (Nat.lt_succ_self _)).trans k21; have k32 : W3.cell? ⟨w.heap.size, 2, none⟩ = some (.int .u16 f) := (hg3.cell (p := ⟨w.heap.size, 2, none⟩) (Nat.lt_succ_self _)).trans k22; have k33 : W3.cell? ⟨w.heap.size, 3, none⟩ = some (.int .u16 x) := (hg3.cell (p := ⟨w.heap.size, 3, none⟩) (Nat.lt_succ_self _)).trans k23; have z3 := hg3.size)
      | (go_at_call 108; refine (r_put (w.heap.size + 1) (0 + 8) 4 _ ([] ++ lows a 8) l _ ho1 (by omega) (by decide) (by decide) hl).mono ?_; rintro e W2 ⟨v2, rfl, ho2, hg2⟩; have k20 : W2.cell? ⟨w.heap.size, 0, none⟩ = some (.int .u64 a) := (hg2.cell (p := ⟨w.heap.size, 0, none⟩) (Nat.lt_succ_self _)).trans k10; have k21 : W2.cell? ⟨w.heap.size, 1, none⟩ = some (.int .u32 l) := (hg2.cell (p := ⟨w.heap.size, 1, none⟩) (Nat.lt_succ_self _)).trans k11; have k22 : W2.cell? ⟨w.heap.size, 2, none⟩ = some (.int .u16 f) := (hg2.cell (p := ⟨w.heap.size, 2, none⟩) (Nat.lt_succ_self _)).trans k12; have k23 : W2.cell? ⟨w.heap.size, 3, none⟩ = some (.int .u16 x) := (hg2.cell (p := ⟨w.heap.size, 3, none⟩) (Nat.lt_succ_self _)).trans k13; have z2 := hg2.size)
      | (go_at_call 108; refine (r_put (w.heap.size + 1) (0) 8 _ ([]) a _ (own_nil _ _) (by simp) (by decide) (by decide) ha).mono ?_; rintro e W1 ⟨v1, rfl, ho1, hg1⟩; have k10 : W1.cell? ⟨w.heap.size, 0, none⟩ = some (.int .u64 a) := (hg1.cell (p := ⟨w.heap.size, 0, none⟩) (Nat.lt_succ_self _)).trans (by go_cell); have k11 : W1.cell? ⟨w.heap.size, 1, none⟩ = some (.int .u32 l) := (hg1.cell (p := ⟨w.heap.size, 1, none⟩) (Nat.lt_succ_self _)).trans (by go_cell); have k12 : W1.cell? ⟨w.heap.size, 2, none⟩ = some (.int .u16 f) := (hg1.cell (p := ⟨w.heap.size, 2, none⟩) (Nat.lt_succ_self _)).trans (by go_cell); have k13 : W1.cell? ⟨w.heap.size, 3, none⟩ = some (.int .u16 x) := (hg1.cell (p := ⟨w.heap.size, 3, none⟩) (Nat.lt_succ_self _)).trans (by go_cell); have z1 := hg1.size; try simp only [World.size_alloc, World.size_drew] at z1))
  go_wp2_with fail
  go_ret
  refine ⟨v4, rfl, ?_, (show Below w.heap.size w _ by go_grown).trans ((hg1.mono (Nat.le_succ _)).trans ((hg2.mono (Nat.le_succ _)).trans ((hg3.mono (Nat.le_succ _)).trans (hg4.mono (Nat.le_succ _)))))⟩
  have e : (List.range 16).map (u8F (descG a l f x)) = [] ++ lows a 8 ++ lows l 4 ++ lows f 2 ++ lows x 2 := rfl
  rw [e]
  exact ho4

end Go.Proofs.Ytkncaafjkoeijaa.DesR2
