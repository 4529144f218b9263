
/- Lists of regions: light ones; a list of its own. -/
import Derived.Test.YtmmgcmbniidieaaGmCopyR
namespace Go.Proofs.Ytmmgcmbniidieaa.GmKit
open Go.RowKit Rw GmFind GmWord GmCheck GmCopyR
set_option linter.unusedVariables false
set_option linter.unusedSimpArgs false

/-- A Boolean; true only of a short list. -/
def LightP (k : Nat) (w : World) (e : Ending) (w' : World) : Prop := ∃ b : Bool, e = .returned (.bool b) ∧ (b = true → k ≤ 40) ∧ w = w'

set_option maxRecDepth 100000 in
set_option maxHeartbeats 4000000 in
theorem light_any (A : Option Addr) (k c : Nat) (most : Int) (r : Rg) (w : World) (hr : Raw r k) (h : Lst w w.heap.size A k r) :
    Calls Try.prog 7 #[.slice A k c, .int .u64 most] w (LightP k w) := by
  by_cases hk : k ≤ 40
  case neg =>
    have h1 : decide ((40 : Int) < (k : Int)) = true := decide_eq_true (by omega)
    go_enter Try.func7, Try.ntmps7
    go_wp2
    go_ret
    exact ⟨false, rfl, (fun h => by cases h), rfl⟩
  have HL := Lib.hid h
  have HR := Lib.hid hr
  clear h hr
  have h1 : decide ((40 : Int) < (k : Int)) = false := decide_eq_false (by omega)
  go_enter Try.func7, Try.ntmps7
  go_wp2_with fail
  go_loop [5, 6] (fun x y => ∃ (i : Nat) (s : Int), i ≤ k ∧ 0 ≤ s ∧ s ≤ i * 1073741824 ∧ x = .int .u64 s ∧ y = .int .i64 i) (fun x y => k - (intOf y).toNat)
  case atStart => exact ⟨0, 0, by omega, by omega, by omega, rfl, rfl⟩
  case round =>
    obtain ⟨i, s, hi, hs0, hs1, rfl, rfl⟩ := hrel
    by_cases hlt : i < k
    · obtain ⟨ad, hA, had, hc⟩ := HL.out (by omega)
      have c1 := elj hc hlt 1 (by decide) (by decide)
      rw [Rg.cell1] at c1
      obtain ⟨_, _, r3, r4⟩ := HR.out i hlt
      clear hc
      subst hA
      go_wp2
      have hm : 0 ≤ (if 1073741824 < r.len i then 1073741824 else r.len i) ∧ (if 1073741824 < r.len i then 1073741824 else r.len i) ≤ 1073741824 := by split <;> omega
      refine ⟨⟨i + 1, _, by omega, ?_, ?_, rfl, by go_num⟩, ?_⟩
      · omega
      · have : ((i + 1 : Nat) : Int) = (i : Int) + 1 := by omega
        rw [this]
        omega
      · simp [intOf]; omega
    · obtain rfl : i = k := by omega
      go_wp2
      go_ret
      exact ⟨_, rfl, (fun _ => hk), rfl⟩

/-- A list of regions of its own. -/
def RegsP (k : Nat) (r : Rg) (w : World) (e : Ending) (w' : World) : Prop := ∃ (A : Option Addr) (c : Nat), e = .returned (.slice A k c) ∧ Lst w' w'.heap.size A k r ∧ Below w.heap.size w w'

set_option maxRecDepth 100000 in
set_option maxHeartbeats 2000000 in
theorem regions_some (A : Option Addr) (k c : Nat) (r : Rg) (w : World) (hk0 : 0 < k) (hk : k ≤ 1000000) (h : Lst w w.heap.size A k r) : Calls Try.prog 10 #[.slice A k c] w (RegsP k r w) := by
  obtain ⟨i0, hi, hz0, hz1, hz2⟩ := rginfo
  obtain ⟨ad, rfl, had, hc⟩ := h hk0
  obtain ⟨cs, hcs⟩ : ∃ cs : List Value, (List.range (k * 2)).map r.cell = cs := ⟨_, rfl⟩
  have hlen : cs.length = k * 2 := by rw [← hcs]; simp
  have HCS := Lib.hid hcs
  have H0 := Lib.hid hi
  have H1 := Lib.hid hz0
  have H2 := Lib.hid hz1
  have H3 := Lib.hid hz2
  have E5 := Lib.hid (show ∀ v ∈ cs, v.oneCell' = true from by
    intro v hv
    rw [← HCS.out] at hv
    obtain ⟨q, _, rfl⟩ := List.mem_map.1 hv
    unfold Rg.cell
    split <;> rfl)
  have E6 := Lib.hid (show ∀ j v, cs[j]? = some v → (w.alloc (.cells #[] 55)).cell? (ad.add j) = some v from by
    intro j v hj
    rw [← HCS.out] at hj
    simp only [List.getElem?_map, Option.map_eq_some_iff] at hj
    obtain ⟨q, hq, rfl⟩ := hj
    obtain ⟨hq1, hq2⟩ := List.getElem?_eq_some_iff.1 hq
    simp at hq1 hq2
    subst hq2
    rw [World.cell?_alloc_lt _ _ _ (by rw [block_of_add]; exact had)]
    exact hc j (by omega))
  have hown := World.ownsRow_made (e := 55) (size := 2) w #[] 0 (Nat.le_refl _) (by unfold maxLen; omega) rfl
  have HO := Lib.hid hown
  have HL := Lib.hid hlen
  clear h hc hcs hi hz0 hz1 hz2 hown hlen
  go_enter Try.func10, Try.ntmps10
  go_wp2_with (at_builtin; refine wpList_append_own _ rfl _ _ 22 rfl w.heap.size 55 i0 (.agg #[.int .u64 0, .int .u64 0]) 2 16 Try.underlying22 H0.out H1.out H2.out H3.out rfl (by decide) (.slice (some ⟨w.heap.size, 0, none⟩) 0 0) 0 [] rfl HO.out ad k c cs rfl HL.out E6.out E5.out (by unfold maxLen; omega) (by omega) (by rw [World.size_alloc]; omega) ?_)
  intro v' W hown' hg' _
  have hown2 : W.ownsRow w.heap.size 55 2 v' k cs := by
    simpa using hown'
  obtain ⟨A', c', rfl⟩ : ∃ A c, v' = .slice A k c := by
    rcases hown2.2 with ⟨h1, h2⟩ | ⟨g, cap, cur, h1, _⟩
    · omega
    · exact ⟨_, _, h1⟩
  have hb : Below w.heap.size w W := ((Below.refl w.heap.size w).alloc (Nat.le_refl _) _).grown hg' (by rw [World.size_alloc]; omega) (fun b e => by cases e; exact Nat.le_refl _)
  have hL : Lst W W.heap.size A' k r := (IsRow.of_own hown2).congr fun j hj => by
    rw [← HCS.out]
    simp [List.getD_eq_getElem?_getD, hj]
  have HH := Lib.hid (And.intro hL hb)
  clear hown' hg' hown2 hL hb
  go_wp2_with fail
  go_ret
  exact ⟨A', c', rfl, HH.out.1, HH.out.2⟩

end Go.Proofs.Ytmmgcmbniidieaa.GmKit
