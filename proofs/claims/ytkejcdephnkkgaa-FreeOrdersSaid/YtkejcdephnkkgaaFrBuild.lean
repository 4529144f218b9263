
/- Free lists: rebuilt; slices.Equal of numbers; dumbwaiterkit.Ints. -/
import Derived.Test.YtkejcdephnkkgaaFrOpen
import Derived.Test.YtkejcdephnkkgaaAppendOpt
import Derived.ArgAppend
import Derived.WalkSpells
namespace Go.Proofs.Ytkejcdephnkkgaa.FrBuild
open Go.RowKit Rw Fe Fr FrRead FrAdd FrOpen Own
set_option linter.unusedVariables false
set_option linter.unusedSimpArgs false

theorem i64info : ∃ i, Try.prog.info? 3 = some i ∧ i.zero = some (.int .i64 0) ∧ i.size = 1 ∧ i.bytes = 8 := info_parts (by kernel_rfl)

/-- append of nothing. -/
theorem run_append_zero {P : Program} {w : World} (t ty e : TypeId) (i : TypeInfo) (ht : P.underlying t = some (.slice e)) (hi : P.info? e = some i) (A B : Option Addr) (n c d : Nat) (hn : n ≤ c) :
    (Builtin.append_ #[t, t] ty #[.slice A n c, .slice B 0 d]).run P w = .ok (.slice A n c) w := by
  have hfc : (Builtin.firstCells i.size 0 (.slice B 0 d)).run P w = .ok #[] w := by
    cases B with
    | none => exact run_firstCells_none w i.size 0 0 d
    | some b => exact run_firstCells_some w i.size 0 b 0 d [] (by simp) (by intro j u h; simp at h)
  cases A with
  | none => simp [Builtin.append_, run_underlying ht, sizeOf, typeInfo, hi, Builtin.lenOf, hn, hfc]
  | some a =>
    simp [Builtin.append_, run_underlying ht, sizeOf, typeInfo, hi, Builtin.lenOf, hn, hfc]
    rfl
theorem wpList_append_zero {P : Program} {w : World} {ops : Array Oper} {rest : List Oper} {o : Oper} {a : Act} {Q : Exit → Act → World → Prop} (hgd : o.guard = none) (s x : Operand) (t : TypeId)
    (ho : o.op = .call { callee := .builtin .append, args := #[s, x], argTypes := #[t, t] })
    (e : TypeId) (i : TypeInfo) (ht : P.underlying t = some (.slice e)) (hi : P.info? e = some i)
    (A B : Option Addr) (n c d : Nat) (hn : n ≤ c) (hs : a.eval s = .slice A n c) (hx : a.eval x = .slice B 0 d)
    (h : wpList P ops Q rest (a.put o.dst (.slice A n c)) w) : wpList P ops Q (o :: rest) a w := by
  refine wpList_plain hgd fun K hK => ?_
  have hrun := run_append_zero (P := P) (w := w) t o.type e i ht hi A B n c d hn
  unfold Oper.wp
  simp [execOp, ho, resolve, invoke, builtin, hs, hx, hrun, Result.andThen]
  exact hK _ _ h

def SlP (w : World) (n : Nat) (l : List Int) (e : Ending) (w' : World) : Prop :=
  ∃ (C : Option Addr) (cc : Nat), e = .returned (.slice C n cc) ∧ Sl w' w'.heap.size C n cc l ∧ (∀ ad, C = some ad → 0 < n → w.heap.size ≤ ad.block) ∧ Below w.heap.size w w'

theorem max63 {c : Nat} (h : c ≤ maxLen) : c ≤ 9223372036854775807 := by unfold maxLen at h; omega

set_option maxRecDepth 100000 in
set_option maxHeartbeats 2000000 in
theorem rebuilt_is (A B : Option Addr) (n m c d : Nat) (l o : List Int) (w : World) (h : Sl w w.heap.size A n c l) (h' : Sl w w.heap.size B m d o) (hn : n ≤ 1000000) (hm : m ≤ 1000000) :
    Calls Try.prog 60 #[.slice A n c, .slice B m d] w (SlP w (n + m) (l ++ o)) := by
  obtain ⟨i0, hi, hz0, hz1, hz2⟩ := i64info
  have I0 := Lib.hid hi
  have I1 := Lib.hid hz0
  have I2 := Lib.hid hz1
  have I3 := Lib.hid hz2
  have H := Lib.hid h
  have H' := Lib.hid h'
  have hc1 := max63 h.max
  have hc2 := h.le
  have hd1 := max63 h'.max
  have hd2 := h'.le
  have HL := Lib.hid (show (rowI l).length = n * 1 from by rw [rowI_length, h.len]; omega)
  have HL' := Lib.hid (show (rowI o).length = m * 1 from by rw [rowI_length, h'.len]; omega)
  have HC := Lib.hid h.cells
  have HC' := Lib.hid h'.cells
  clear h h' hi hz0 hz1 hz2
  unfold SlP
  by_cases n0 : n = 0
  · subst n0
    have l0 : l = [] := List.eq_nil_of_length_eq_zero H.out.len
    subst l0
    by_cases m0 : m = 0
    · subst m0
      have o0 : o = [] := List.eq_nil_of_length_eq_zero H'.out.len
      subst o0
      cases A with
      | none =>
        obtain rfl : c = 0 := H.out.nil rfl
        go_enter Try.func60, Try.ntmps60
        go_wp2_with (at_builtin; first
          | refine wpList_append_zero rfl _ _ 54 rfl 3 i0 Try.underlying54 I0.out none none 0 0 0 (Nat.le_refl _) rfl rfl ?_
          | refine wpList_append_zero rfl _ _ 54 rfl 3 i0 Try.underlying54 I0.out none B 0 0 d (Nat.le_refl _) rfl rfl ?_)
        go_ret
        exact ⟨none, 0, rfl, Sl.empty _ _, fun ad _ h => absurd h (by omega), Below.refl _ _⟩
      | some ad =>
        go_enter Try.func60, Try.ntmps60
        go_wp2_with (at_builtin; first
          | refine wpList_append_zero rfl _ _ 54 rfl 3 i0 Try.underlying54 I0.out (some ad) (some ad) 0 0 c (Nat.le_refl _) rfl rfl ?_
          | refine wpList_append_zero rfl _ _ 54 rfl 3 i0 Try.underlying54 I0.out (some ad) B 0 0 d (Nat.le_refl _) rfl rfl ?_)
        go_ret
        exact ⟨some ad, 0, rfl, H.out.clip (Nat.le_refl _) (Nat.zero_le _), fun ad _ h => absurd h (by omega), Below.refl _ _⟩
    · obtain ⟨bd, rfl, _⟩ := H'.out.el (k := 0) (by omega)
      rw [Nat.zero_add, List.nil_append]
      have HN := Lib.hid m0
      clear m0
      cases A with
      | none =>
        obtain rfl : c = 0 := H.out.nil rfl
        go_enter Try.func60, Try.ntmps60
        go_wp2_with (at_builtin; first
          | refine wpList_append_zero rfl _ _ 54 rfl 3 i0 Try.underlying54 I0.out none none 0 0 0 (Nat.le_refl _) rfl rfl ?_
          | refine wpList_append_grows _ rfl _ _ 54 rfl 3 i0 (.int .i64 0) 1 8 Try.underlying54 I0.out I1.out I2.out I3.out rfl (by decide) none 0 0 [] rfl (fun _ => ⟨rfl, rfl⟩) rfl (fun b e => by cases e) bd m d (rowI o) rfl HL'.out (HC'.out bd rfl) (rowI_one o) (by have := HN.out; omega) (by unfold maxLen; omega) (by omega) ?_)
        intro v W2 hown hg
        obtain ⟨A2, c2, rfl⟩ := own_slice hown
        have HO := Lib.hid (And.intro hown (show Below w.heap.size w W2 from (Below.refl _ w).grown hg (Nat.le_refl _) (fun k e => by cases e)))
        clear hown hg
        go_wp2_with fail
        go_ret
        exact ⟨A2, c2, rfl, Sl.of_own HO.out.1, Sl.new_of HO.out.1, HO.out.2⟩
      | some ad =>
        go_enter Try.func60, Try.ntmps60
        go_wp2_with (at_builtin; first
          | refine wpList_append_zero rfl _ _ 54 rfl 3 i0 Try.underlying54 I0.out (some ad) (some ad) 0 0 c (Nat.le_refl _) rfl rfl ?_
          | refine wpList_append_grows _ rfl _ _ 54 rfl 3 i0 (.int .i64 0) 1 8 Try.underlying54 I0.out I1.out I2.out I3.out rfl (by decide) (some ad) 0 0 [] rfl (fun e => by cases e) rfl (fun b e j u hu => by cases hu) bd m d (rowI o) rfl HL'.out (HC'.out bd rfl) (rowI_one o) (by have := HN.out; omega) (by unfold maxLen; omega) (by omega) ?_)
        intro v W2 hown hg
        obtain ⟨A2, c2, rfl⟩ := own_slice hown
        have HO := Lib.hid (And.intro hown (show Below w.heap.size w W2 from (Below.refl _ w).grown hg (Nat.le_refl _) (fun k e => by cases e)))
        clear hown hg
        go_wp2_with fail
        go_ret
        exact ⟨A2, c2, rfl, Sl.of_own HO.out.1, Sl.new_of HO.out.1, HO.out.2⟩
  · obtain ⟨ad, rfl, _⟩ := H.out.el (k := 0) (by omega)
    have HN := Lib.hid n0
    clear n0
    go_enter Try.func60, Try.ntmps60
    go_wp2_with (at_builtin; refine wpList_append_grows _ rfl _ _ 54 rfl 3 i0 (.int .i64 0) 1 8 Try.underlying54 I0.out I1.out I2.out I3.out rfl (by decide) (some ad) 0 0 [] rfl (fun e => by cases e) rfl (fun b e j u hu => by cases hu) ad n c (rowI l) rfl HL.out (HC.out ad rfl) (rowI_one l) (by have := HN.out; omega) (by unfold maxLen; omega) (by omega) ?_)
    intro v W2 hown hg
    obtain ⟨A2, c2, rfl⟩ := own_slice hown
    have hb2 : Below w.heap.size w W2 := (Below.refl _ w).grown hg (Nat.le_refl _) (fun k e => by cases e)
    have hs2 := hb2.size
    have HO := Lib.hid hown
    have HB := Lib.hid hb2
    have HC2 := Lib.hid (H'.out.below hb2).cells
    have HX := Lib.hid (show B = none → m = 0 ∧ d = 0 from fun e => by have := H'.out.nil e; omega)
    clear hown hg hb2
    go_wp2_with (at_builtin; refine wpList_append_opt rfl _ _ 54 rfl w.heap.size 3 i0 (.int .i64 0) 1 8 Try.underlying54 I0.out I1.out I2.out I3.out rfl (by decide) (.slice A2 n c2) n (rowI l) rfl HO.out B m d (rowI o) rfl HX.out HL'.out HC2.out (rowI_one o) (by unfold maxLen; omega) (by omega) (by omega) ?_)
    intro v3 W3 hown3 hg3
    rw [← rowI_append] at hown3
    obtain ⟨A3, c3, rfl⟩ := own_slice hown3
    have HO3 := Lib.hid (And.intro hown3 (show Below w.heap.size w W3 from HB.out.grown hg3 hs2 (fun k e => own_block HO.out k e)))
    clear hown3 hg3
    go_wp2_with fail
    go_ret
    exact ⟨A3, c3, rfl, Sl.of_own HO3.out.1, Sl.new_of HO3.out.1, HO3.out.2⟩


theorem rebuilt_left (A : Option Addr) (n c : Nat) (l : List Int) (w : World) (h : Sl w w.heap.size A n c l) (hn : n ≤ 1000000) : Calls Try.prog 60 #[.slice A n c, .slice none 0 0] w (SlP w n l) := by
  have := rebuilt_is A none n 0 c 0 l [] w h (Sl.empty _ _) hn (by omega)
  simpa using this
theorem rebuilt_right (A : Option Addr) (n c : Nat) (l : List Int) (w : World) (h : Sl w w.heap.size A n c l) (hn : n ≤ 1000000) : Calls Try.prog 60 #[.slice none 0 0, .slice A n c] w (SlP w n l) := by
  have := rebuilt_is none A 0 n 0 c [] l w (Sl.empty _ _) h (by omega) hn
  simpa using this

/-- Two lists, held against each other from the first on. -/
theorem eq_drop {l o : List Int} {k : Nat} (hk : k < l.length) (h : l.length = o.length) : decide (l.drop k = o.drop k) = (decide (l.getD k 0 = o.getD k 0) && decide (l.drop (k + 1) = o.drop (k + 1))) := by
  rw [drop_cons hk, drop_cons (show k < o.length by omega)]
  simp [List.cons.injEq, Bool.decide_and]

set_option maxRecDepth 100000 in
set_option maxHeartbeats 2000000 in
theorem equal_is (A B : Option Addr) (n m c d : Nat) (l o : List Int) (w : World) (h : Sl w w.heap.size A n c l) (h' : Sl w w.heap.size B m d o) (r : Bool) (hr : decide (l = o) = r) :
    Calls Try.prog 65 #[.slice A n c, .slice B m d] w fun e w' => e = .returned (.bool r) ∧ Below w.heap.size w w' := by
  have hn := Nat.le_trans h.le (max63 h.max)
  have hm := Nat.le_trans h'.le (max63 h'.max)
  by_cases hk : n = m
  case neg =>
    have h1 : ((n : Int) == (m : Int)) = false := by simp; omega
    obtain rfl : r = false := by rw [← hr]; exact decide_eq_false (fun e => by subst e; exact hk (h.len.symm.trans h'.len))
    clear h h' hr hk
    go_enter Try.func65, Try.ntmps65
    go_wp2
    go_ret
    exact ⟨rfl, by go_grown⟩
  subst hk
  have HL := Lib.hid h
  have HO := Lib.hid h'
  have HR := Lib.hid hr
  clear h h' hr
  go_enter Try.func65, Try.ntmps65
  go_wp2_with fail
  go_loopw [13] (fun i wr => ∃ (k : Nat), k ≤ n ∧ i = num k ∧ Hid (decide (l.drop k = o.drop k) = r) ∧ Below w.heap.size w wr) (fun i wr => n - (intOf i).toNat)
  case atStart => exact ⟨0, by omega, rfl, Lib.hid (by simpa using HR.out), by go_grown⟩
  case round =>
    obtain ⟨k, hkn, rfl, hs, hb⟩ := hrel
    by_cases hlt : k < n
    · obtain ⟨ad, rfl, had, c0⟩ := (HL.out.below hb).el hlt
      obtain ⟨ad', rfl, had', c1⟩ := (HO.out.below hb).el hlt
      have hs2 := hs.out
      rw [eq_drop (by rw [HL.out.len]; exact hlt) (by rw [HL.out.len, HO.out.len])] at hs2
      obtain ⟨x, hx⟩ : ∃ x, l.getD k 0 = x := ⟨_, rfl⟩
      obtain ⟨y, hy⟩ : ∃ y, o.getD k 0 = y := ⟨_, rfl⟩
      rw [hx] at c0 hs2
      rw [hy] at c1 hs2
      have hsw := hb.size
      have HS := Lib.hid hs2
      clear hs hs2 hx hy
      by_cases he : x = y
      · subst he
        go_wp2
        go_region
        go_wp2
        go_roundw
        case rel => exact ⟨k + 1, by omega, by go_num, Lib.hid (by have := HS.out; simpa using this), hb.drew⟩
        case measure => simp [intOf]; omega
      · obtain rfl : r = false := by have := HS.out; simpa [he] using this.symm
        go_wp2
        go_region
        go_wp2
        go_ret
        exact ⟨rfl, hb.drew⟩
    · obtain rfl : k = n := by omega
      have hs2 := hs.out
      rw [List.drop_eq_nil_of_le (by rw [HL.out.len]; omega), List.drop_eq_nil_of_le (by rw [HO.out.len]; omega)] at hs2
      obtain rfl : r = true := by simpa using hs2.symm
      clear hs hs2
      go_wp2
      go_ret
      exact ⟨rfl, hb⟩

set_option maxRecDepth 100000 in
set_option maxHeartbeats 2000000 in
theorem ints_is (A B : Option Addr) (n m c d : Nat) (l o : List Int) (w : World) (h : Sl w w.heap.size A n c l) (h' : Sl w w.heap.size B m d o) (r : Bool) (hr : decide (l = o) = r) :
    Calls Try.prog 41 #[.slice A n c, .slice B m d] w fun e w' => e = .returned (.bool r) ∧ Below w.heap.size w w' := by
  have hn := Nat.le_trans h.le (max63 h.max)
  have hm := Nat.le_trans h'.le (max63 h'.max)
  by_cases hk : n = m
  case neg =>
    have h1 : ((n : Int) == (m : Int)) = false := by simp; omega
    obtain rfl : r = false := by rw [← hr]; exact decide_eq_false (fun e => by subst e; exact hk (h.len.symm.trans h'.len))
    clear h h' hr hk
    go_enter Try.func41, Try.ntmps41
    go_wp2
    go_ret
    exact ⟨rfl, by go_grown⟩
  subst hk
  have HL := Lib.hid h
  have HO := Lib.hid h'
  have HR := Lib.hid hr
  clear h h' hr
  go_enter Try.func41, Try.ntmps41
  go_wp2_with fail
  go_loopw [5] (fun i wr => ∃ (k : Nat), k ≤ n ∧ i = num k ∧ Hid (decide (l.drop k = o.drop k) = r) ∧ Below w.heap.size w wr) (fun i wr => n - (intOf i).toNat)
  case atStart => exact ⟨0, by omega, rfl, Lib.hid (by simpa using HR.out), by go_grown⟩
  case round =>
    obtain ⟨k, hkn, rfl, hs, hb⟩ := hrel
    by_cases hlt : k < n
    · obtain ⟨ad, rfl, had, c0⟩ := (HL.out.below hb).el hlt
      obtain ⟨ad', rfl, had', c1⟩ := (HO.out.below hb).el hlt
      have hs2 := hs.out
      rw [eq_drop (by rw [HL.out.len]; exact hlt) (by rw [HL.out.len, HO.out.len])] at hs2
      obtain ⟨x, hx⟩ : ∃ x, l.getD k 0 = x := ⟨_, rfl⟩
      obtain ⟨y, hy⟩ : ∃ y, o.getD k 0 = y := ⟨_, rfl⟩
      rw [hx] at c0 hs2
      rw [hy] at c1 hs2
      have hsw := hb.size
      have HS := Lib.hid hs2
      clear hs hs2 hx hy
      by_cases he : x = y
      · subst he
        go_wp2
        go_region
        go_wp2
        go_roundw
        case rel => exact ⟨k + 1, by omega, by go_num, Lib.hid (by have := HS.out; simpa using this), hb.drew⟩
        case measure => simp [intOf]; omega
      · obtain rfl : r = false := by have := HS.out; simpa [he] using this.symm
        go_wp2
        go_region
        go_wp2
        go_ret
        exact ⟨rfl, hb.drew⟩
    · obtain rfl : k = n := by omega
      have hs2 := hs.out
      rw [List.drop_eq_nil_of_le (by rw [HL.out.len]; omega), List.drop_eq_nil_of_le (by rw [HO.out.len]; omega)] at hs2
      obtain rfl : r = true := by simpa using hs2.symm
      clear hs hs2
      go_wp2
      go_ret
      exact ⟨rfl, hb⟩

end Go.Proofs.Ytkejcdephnkkgaa.FrBuild
