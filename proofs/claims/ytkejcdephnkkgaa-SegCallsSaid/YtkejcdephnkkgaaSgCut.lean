
/- Segments: Cut and Part. -/
import Derived.Test.YtkejcdephnkkgaaSgTake
import Derived.Test.YtkejcdephnkkgaaSgTotal
namespace Go.Proofs.Ytkejcdephnkkgaa.SgCut
open Go.RowKit Rw Sg SgCheck SgClone SgTake SgTotal
set_option linter.unusedVariables false
set_option linter.unusedSimpArgs false

/-- A list of segments that the call made. -/
def SegsP (l : List S3) (w : World) (e : Ending) (w' : World) : Prop := ∃ (A : Option Addr) (c : Nat), e = .returned (.slice A l.length c) ∧ Lst w' w'.heap.size A l ∧ (l.length ≤ c ∧ (A = none → l.length = 0 ∧ c = 0) ∧ (∀ ad, A = some ad → w.heap.size ≤ ad.block) ∧ w'.ownsRow w.heap.size 73 3 (.slice A l.length c) l.length (row l)) ∧ Below w.heap.size w w'

theorem own_cap {w : World} {base : Nat} {e : TypeId} {size n c : Nat} {A : Option Addr} {xs : List Value} (h : w.ownsRow base e size (.slice A n c) n xs) : n ≤ c := by
  rcases h.2 with ⟨h1, h2⟩ | ⟨g', cap, cur, h1, hb, _, hc, _⟩
  · omega
  · cases h1; exact hc
theorem own_none {w : World} {base : Nat} {e : TypeId} {size n c : Nat} {A : Option Addr} {xs : List Value} (h : w.ownsRow base e size (.slice A n c) n xs) : A = none → n = 0 ∧ c = 0 := by
  intro hA
  subst hA
  rcases h.2 with ⟨h1, h2⟩ | ⟨g', cap, cur, h1, hb, _, hc, _⟩
  · cases h1; exact ⟨rfl, rfl⟩
  · cases h1
theorem own_base {w : World} {base base' : Nat} {e : TypeId} {size n : Nat} {v : Value} {xs : List Value} (h : w.ownsRow base e size v n xs) (hb : base' ≤ base) : w.ownsRow base' e size v n xs := by
  refine ⟨h.1, ?_⟩
  rcases h.2 with h1 | ⟨g, cap, cur, h1, h2, h3⟩
  · exact .inl h1
  · exact .inr ⟨g, cap, cur, h1, Nat.le_trans hb h2, h3⟩
theorem own_rows {w : World} {base c : Nat} {A : Option Addr} {l : List S3} (h : w.ownsRow base 73 3 (.slice A l.length c) l.length (row l)) : 0 < l.length → ∃ g, A = some ⟨g, 0, none⟩ ∧ base ≤ g ∧ g < w.heap.size ∧ ∀ j, j < l.length * 3 → w.cell? ⟨g, j, none⟩ = some (cell l j) ∧ w.frozen? ⟨g, j, none⟩ = false := by
  intro h0
  obtain ⟨ad, e, hlt, hc⟩ := own_lst h h0
  rcases h.2 with ⟨h1, h2⟩ | ⟨g, cap, cur, h1, hb, hh, _⟩
  · omega
  · cases h1
    cases e
    refine ⟨g, rfl, hb, hlt, fun j hj => ⟨?_, ?_⟩⟩
    · have := hc j hj
      have e : (⟨g, 0, none⟩ : Addr).add j = ⟨g, j, none⟩ := by unfold Addr.add; split <;> simp_all
      rwa [e] at this
    · simp [World.frozen?, hh]

theorem drop_val (n : Int) (l : List S3) (h : ∀ x ∈ l, x.Val) (n0 : 0 ≤ n) : ∀ x ∈ dropL n l, x.Val := by
  induction l generalizing n with
  | nil => intro x hx; cases hx
  | cons y r ih =>
    rw [dropL_cons]
    split
    · exact h
    · split
      · intro x hx
        rcases List.mem_cons.1 hx with rfl | hx
        · obtain ⟨h1, h2, h3, h4⟩ := h y (by simp)
          exact ⟨by show 0 ≤ y.a + n; omega, by show 1 ≤ y.n - n; omega, by show y.n - n ≤ _; omega, by show y.a + n + (y.n - n - 1) ≤ _; omega⟩
        · exact h x (by simp [hx])
      · exact ih _ (fun x hx => h x (by simp [hx])) (by omega)
theorem drop_len (n : Int) (l : List S3) : (dropL n l).length ≤ l.length := by
  induction l generalizing n with
  | nil => exact Nat.le_refl _
  | cons y r ih =>
    rw [dropL_cons]
    split
    · exact Nat.le_refl _
    · split
      · exact Nat.le_refl _
      · exact Nat.le_trans (ih _) (by simp)
theorem take_len (n : Int) (l : List S3) : (takeL n l).length ≤ l.length := by
  induction l generalizing n with
  | nil => exact Nat.le_refl _
  | cons y r ih =>
    rw [takeL_cons]
    split
    · simp
    · split
      · simp
      · simpa using ih _

set_option maxRecDepth 100000 in
set_option maxHeartbeats 4000000 in
theorem cut_any (A : Option Addr) (c : Nat) (l : List S3) (f n : Int) (w : World) (hn : l.length ≤ 1000000) (hraw : ∀ x ∈ l, x.Raw) (h : Lst w w.heap.size A l) (f0 : 0 ≤ f) (f1 : f ≤ 18446744073709551615) (n0 : 0 ≤ n) (n1 : n ≤ 18446744073709551615) :
    Calls Try.prog 21 #[.slice A l.length c, .int .u64 f, .int .u64 n] w (SegsP (cutL l f n) w) := by
  have hb0 : Below w.heap.size w w := Below.refl _ _
  unfold SegsP
  by_cases hk : checkL l = 0
  case neg =>
    have e1 : cutL l f n = [] := by unfold cutL; rw [if_neg hk]
    rw [e1]
    have h1 : (checkL l == 0) = false := by simp [hk]
    have H := Lib.hid h
    clear h hk
    go_enter Try.func21, Try.ntmps21
    go_wp2_with fail
    refine (check_any A c l _ (by omega) hraw H.out).mono ?_
    rintro eE W1 ⟨rfl, hg1⟩
    have hb1 : Below w.heap.size w W1 := (show Below w.heap.size w _ by go_grown).trans (hg1.mono (by first | omega | go_size))
    obtain ⟨hc1, hf1⟩ := bcell hg1
    have hs1 := hg1.size
    try simp only [World.size_alloc, World.size_setCell, World.size_drew] at hs1
    clear hg1 hc1 hf1
    go_wp2_with fail
    go_ret
    exact ⟨none, 0, rfl, IsRow.none_, ⟨Nat.le_refl _, fun _ => by simp, fun ad e => (by cases e), ⟨rfl, .inl ⟨rfl, by simp⟩⟩⟩, by go_grown⟩
  have e1 : cutL l f n = takeL n (dropL f l) := by unfold cutL; rw [if_pos hk]
  rw [e1]
  have h1 : (checkL l == 0) = true := by simp [hk]
  have HV := Lib.hid (check_val hraw hk)
  have hl64 := (check_chk hk).2
  have HL := Lib.hid h
  have HW := Lib.hid hraw
  have HD := Lib.hid (drop_val f l HV.out f0)
  have hdl := drop_len f l
  clear h hraw hk e1
  go_enter Try.func21, Try.ntmps21
  go_wp2_with fail
  refine (check_any A c l _ (by omega) HW.out HL.out).mono ?_
  rintro eE W1 ⟨rfl, hg1⟩
  have hb1 : Below w.heap.size w W1 := (show Below w.heap.size w _ by go_grown).trans (hg1.mono (by first | omega | go_size))
  obtain ⟨hc1, hf1⟩ := bcell hg1
  have hs1 := hg1.size
  try simp only [World.size_alloc, World.size_setCell, World.size_drew] at hs1
  clear hg1 hc1 hf1
  go_wp2_with fail
  refine (clone_any A c l _ (by omega) ((HL.out.below hb1).more hs1)).mono ?_
  rintro e W2 ⟨A2, c2, rfl, hown2, hg2⟩
  have hb2 : Below w.heap.size w W2 := hb1.trans (hg2.mono hs1)
  have hs2 := hg2.size
  have HQ := Lib.hid (show QAt (W2.alloc (.cells #[.slice A2 l.length c2] 85)) w.heap.size (W2.alloc (.cells #[.slice A2 l.length c2] 85)).heap.size W2.heap.size A2 c2 l from by
    have hr := World.rowIs_alloc W2 #[.slice A2 l.length c2] 85 (fun _ => .slice A2 l.length c2) (fun i hi => by
      match i, hi with
      | 0, _ => rfl)
    refine ⟨hr.cell (i := 0) (by simp), hr.frozen 0, by omega, by simp, own_cap hown2, fun h0 => ?_⟩
    obtain ⟨g, rfl, hg1, hg3, hc⟩ := own_rows (hown2.alloc (.cells #[.slice A2 l.length c2] 85)) h0
    refine ⟨g, 0, rfl, by omega, hg3, ?_, fun j hj => by rw [Nat.zero_add]; exact hc j hj⟩
    intro e
    have := (hown2.lt g rfl).2
    omega)
  have hb3 : Below w.heap.size w (W2.alloc (.cells #[.slice A2 l.length c2] 85)) := hb2.alloc (by omega) _
  clear hown2 hg2
  go_wp2_with fail
  (with_reducible refine (take_any w.heap.size W2.heap.size A2 c2 l f _ HQ.out HV.out f0 f1 hl64 (by simp; omega)).mono ?_)
  rintro e W4 ⟨A4, A5, c4, c5, rfl, hown4, hq4, hg4, hE⟩
  have hb4 : Below w.heap.size w W4 := hb3.trans hg4
  have hs4 := hg4.size
  have hs2' : W2.heap.size + 1 ≤ W4.heap.size := by rwa [World.size_alloc] at hs4
  have HQ4 := Lib.hid hq4
  clear hown4 hq4
  go_wp2_with fail
  have HQ5 := Lib.hid (show QAt W4 w.heap.size W4.heap.size W2.heap.size A4 c4 (dropL f l) from HQ4.out.more hE)
  (with_reducible refine (take_any w.heap.size W2.heap.size A4 c4 (dropL f l) n _ HQ5.out HD.out n0 n1 (by omega) (by omega)).mono ?_)
  rintro e W6 ⟨A6, A7, c6, c7, rfl, hown6, hq6, hg6, hE6⟩
  have hb6 : Below w.heap.size w W6 := hb4.trans hg6
  have H6 := Lib.hid (And.intro (own_lst hown6) (And.intro (own_cap hown6) (And.intro (own_none hown6) (And.intro (show ∀ ad, A7 = some ad → w.heap.size ≤ ad.block from fun ad e => by subst e; have := own_block hown6 ad.block rfl; omega) (own_base hown6 (show w.heap.size ≤ W4.heap.size by omega))))))
  clear hown6 hq6 hg6
  go_wp2_with fail
  go_ret
  exact ⟨A7, c7, rfl, H6.out.1, H6.out.2, hb6⟩

set_option maxRecDepth 100000 in
set_option maxHeartbeats 4000000 in
theorem part_any (A : Option Addr) (c : Nat) (l : List S3) (b : Bool) (w : World) (hn : l.length ≤ 1000000) (hraw : ∀ x ∈ l, x.Raw) (h : Lst w w.heap.size A l) :
    Calls Try.prog 19 #[.slice A l.length c, .bool b] w (SegsP (partL l b) w) := by
  have hb0 : Below w.heap.size w w := Below.refl _ _
  have hrd : 0 ≤ rd l ∧ rd l ≤ 18446744073709551615 := by
    unfold rd
    split
    · rename_i hk
      have := check_sum hk
      have := tot_nonneg (b := false) hraw
      have := tot_nonneg (b := true) hraw
      omega
    · omega
  have hwr : 0 ≤ wr l ∧ wr l ≤ 18446744073709551615 := by
    unfold wr
    split
    · rename_i hk
      have := check_sum hk
      have := tot_nonneg (b := false) hraw
      have := tot_nonneg (b := true) hraw
      omega
    · omega
  have HL := Lib.hid h
  have HW := Lib.hid hraw
  clear h hraw
  cases b with
  | true =>
    unfold SegsP
    go_enter Try.func19, Try.ntmps19
    go_wp2_with fail
    refine (total_any A c l _ (by omega) HW.out HL.out).mono ?_
    rintro eE W1 ⟨rfl, hg1⟩
    have hb1 : Below w.heap.size w W1 := (show Below w.heap.size w _ by go_grown).trans (hg1.mono (by first | omega | go_size))
    obtain ⟨hc1, hf1⟩ := bcell hg1
    have hs1 := hg1.size
    try simp only [World.size_alloc, World.size_setCell, World.size_drew] at hs1
    clear hg1 hc1 hf1
    go_wp2_with fail
    refine (cut_any A c l (rd l) (wr l) _ hn HW.out ((HL.out.below hb1).more hs1) hrd.1 hrd.2 hwr.1 hwr.2).mono ?_
    rintro e W2 ⟨A2, c2, rfl, h1, h2, h3⟩
    have hb2 : Below w.heap.size w W2 := hb1.trans (h3.mono hs1)
    have h2' : (_ ≤ c2 ∧ (A2 = none → _ = 0 ∧ c2 = 0) ∧ (∀ ad, A2 = some ad → w.heap.size ≤ ad.block) ∧ W2.ownsRow w.heap.size 73 3 (.slice A2 _ c2) _ (row _)) := ⟨h2.1, h2.2.1, fun ad e => Nat.le_trans hs1 (h2.2.2.1 ad e), own_base h2.2.2.2 hs1⟩
    have H := Lib.hid h1
    have H2 := Lib.hid h2'
    clear h1 h3 h2 h2'
    go_wp2_with fail
    go_ret
    exact ⟨A2, c2, rfl, H.out, H2.out, hb2⟩
  | false =>
    unfold SegsP
    go_enter Try.func19, Try.ntmps19
    go_wp2_with fail
    refine (total_any A c l _ (by omega) HW.out HL.out).mono ?_
    rintro eE W1 ⟨rfl, hg1⟩
    have hb1 : Below w.heap.size w W1 := (show Below w.heap.size w _ by go_grown).trans (hg1.mono (by first | omega | go_size))
    obtain ⟨hc1, hf1⟩ := bcell hg1
    have hs1 := hg1.size
    try simp only [World.size_alloc, World.size_setCell, World.size_drew] at hs1
    clear hg1 hc1 hf1
    go_wp2_with fail
    refine (cut_any A c l 0 (rd l) _ hn HW.out ((HL.out.below hb1).more hs1) (by decide) (by decide) hrd.1 hrd.2).mono ?_
    rintro e W2 ⟨A2, c2, rfl, h1, h2, h3⟩
    have hb2 : Below w.heap.size w W2 := hb1.trans (h3.mono hs1)
    have h2' : (_ ≤ c2 ∧ (A2 = none → _ = 0 ∧ c2 = 0) ∧ (∀ ad, A2 = some ad → w.heap.size ≤ ad.block) ∧ W2.ownsRow w.heap.size 73 3 (.slice A2 _ c2) _ (row _)) := ⟨h2.1, h2.2.1, fun ad e => Nat.le_trans hs1 (h2.2.2.1 ad e), own_base h2.2.2.2 hs1⟩
    have H := Lib.hid h1
    have H2 := Lib.hid h2'
    clear h1 h3 h2 h2'
    go_wp2_with fail
    go_ret
    exact ⟨A2, c2, rfl, H.out, H2.out, hb2⟩

end Go.Proofs.Ytkejcdephnkkgaa.SgCut
