/- Bytes of their own, bytes as strings; the examples of package gmem run. -/
import Derived.Test.YtmmgcmbniidieaaMEng1
import Derived.Test.YtmmgcmbniidieaaGmNew
import Derived.Test.YtmmgcmbniidieaaAppendOpt
import Derived.Laws.IdiomStrings
import Derived.Laws.BytesArg
namespace Go.Proofs.Ytmmgcmbniidieaa.GmOwn
open Go.RowKit Rw Le GmNew
set_option linter.unusedVariables false
set_option linter.unusedSimpArgs false

theorem envOk : (Eng.Env.of Try.prog).Ok := Eng.Env.of_ok _ (by kernel_rfl) (by kernel_rfl)
theorem lives_run : Eng.isTrue (Eng.runL (Eng.Env.of Try.prog) 100000 6 []) = true := by kernel_rfl
theorem lives_any (w : World) : Calls Try.prog 6 #[] w fun e w' => e = .returned (.bool true) ∧ Below w.heap.size w w' := Eng.runs envOk lives_run w
abbrev u8F (g : Nat → Int) : Nat → Value := fun j => .int .u8 (g j)
def Bytes8 (g : Nat → Int) (n : Nat) : Prop := ∀ j, j < n → 0 ≤ g j ∧ g j ≤ 255
theorem own_cap {w : World} {base : Nat} {e : TypeId} {size n c : Nat} {A : Option Addr} {xs : List Value} (h : w.ownsRow base e size (.slice A n c) n xs) : n ≤ c := by
  rcases h.2 with ⟨h1, h2⟩ | ⟨g, cap, cur, h1, _, _, h2, _⟩
  · omega
  · injection h1 with _ _ h3; omega
/-- A copy of bytes. -/
def OwnP (g : Nat → Int) (n : Nat) (w : World) (x : Ending) (w' : World) : Prop :=
  ∃ (A' : Option Addr) (c' : Nat), x = .returned (.slice A' n c') ∧ n ≤ c' ∧ IsRow w' w'.heap.size 1 A' n (u8F g) ∧ (∀ ad, A' = some ad → w.heap.size ≤ ad.block) ∧ Below w.heap.size w w'
set_option maxRecDepth 100000 in
set_option maxHeartbeats 4000000 in
theorem own_any (A : Option Addr) (n c : Nat) (g : Nat → Int) (w : World) (hn : n ≤ 1000000000) (h : IsRow w w.heap.size 1 A n (u8F g)) (hA : A = none → n = 0 ∧ c = 0) :
    Calls Try.prog 21 #[.slice A n c] w (OwnP g n w) := by
  unfold OwnP
  obtain ⟨i0, hi, hz0, hz1, hz2⟩ := GmNew.u8info
  have HI0 := Lib.hid hi
  have HI1 := Lib.hid hz0
  have HI2 := Lib.hid hz1
  have HI3 := Lib.hid hz2
  have HO := Lib.hid (World.ownsRow_made (e := 5) (size := 1) w #[] 0 (Nat.le_refl _) (by unfold maxLen; omega) rfl)
  have HN := Lib.hid (show ∀ ad, A = some ad → ∀ j u, ((List.range n).map (u8F g))[j]? = some u → (w.alloc (.cells #[] 5)).cell? (ad.add j) = some u from by
    intro ad e j u hu
    have hj : j < n := by have := (List.getElem?_eq_some_iff.1 hu).1; simpa using this
    obtain ⟨ad', e', hlt, hc⟩ := h (by omega)
    rw [e] at e'
    cases e'
    rw [World.cell?_alloc_lt _ _ _ (by rw [block_of_add]; exact hlt), hc j (by omega), ← hu]
    simp [hj])
  have HL := Lib.hid (show ((List.range n).map (u8F g)).length = n * 1 from by simp)
  have HA := Lib.hid hA
  have H1 := Lib.hid (show ∀ u ∈ (List.range n).map (u8F g), u.oneCell' = true from by simp [u8F, Value.oneCell'])
  clear hi hz0 hz1 hz2 h hA
  go_enter Try.func21, Try.ntmps21
  go_wp2_with (at_builtin; refine wpList_append_opt rfl _ _ 37 rfl w.heap.size 5 i0 (.int .u8 0) 1 1 Try.underlying37 HI0.out HI1.out HI2.out HI3.out rfl (by decide) (.slice (some ⟨w.heap.size, 0, none⟩) 0 0) 0 [] rfl HO.out A n c ((List.range n).map (u8F g)) rfl HA.out HL.out HN.out H1.out (by unfold maxLen; omega) (by omega) (by rw [World.size_alloc]; omega) ?_)
  intro v' W hown' hg'
  have hown2 : W.ownsRow w.heap.size 5 1 v' n ((List.range n).map (u8F g)) := by simpa using hown'
  obtain ⟨A', c', rfl⟩ := own_slice hown2
  have hcap := own_cap hown2
  have hb : Below w.heap.size w W := ((Below.refl w.heap.size w).alloc (Nat.le_refl _) _).grown hg' (by rw [World.size_alloc]; omega) (fun b e => by cases e; exact Nat.le_refl _)
  have hrow : IsRow W W.heap.size 1 A' n (u8F g) := (IsRow.of_own hown2).congr fun j hj => by
    have hj' : j < n := by omega
    simp [List.getD_eq_getElem?_getD, hj']
  have hblk : ∀ ad, A' = some ad → w.heap.size ≤ ad.block := fun ad e => own_block hown2 ad.block (by rw [e]; rfl)
  have HH := Lib.hid (And.intro hcap (And.intro hrow (And.intro hblk hb)))
  clear hown' hg' hown2 hb hrow hcap hblk
  go_wp2_with fail
  go_ret
  exact ⟨A', c', rfl, HH.out.1, HH.out.2.1, HH.out.2.2.1, HH.out.2.2.2⟩

/-- Bytes as a string. -/
def strOf (g : Nat → Int) (n : Nat) : ByteArray := ⟨((List.range n).map fun j => UInt8.ofNat (g j).toNat).toArray⟩
theorem run_str {P : Program} (src dst e : TypeId) (hs : P.underlying src = some (.slice e)) (he : P.underlying e = some (.int .u8)) (hd : P.underlying dst = some .string) (A : Option Addr) (n c B : Nat) (g : Nat → Int) (W : World) (hg : Bytes8 g n) (hr : IsRow W B 1 A n (u8F g)) :
    (convert src dst (.slice A n c)).run P W = .ok (.string (strOf g n)) W := by
  cases A with
  | none =>
    have h0 : n = 0 := by
      rcases Nat.eq_zero_or_pos n with h | h
      · exact h
      · obtain ⟨ad, e, _⟩ := hr h; cases e
    subst h0
    exact run_convert_bytes_nil (P := P) W src e hs he 0 c dst hd
  | some a =>
    have := run_convert_bytes_back (P := P) W src dst e a c ((List.range n).map fun j => UInt8.ofNat (g j).toNat) hs he hd (fun j hj => by
      have hj' : j < n := by simpa using hj
      obtain ⟨ad, e, _, hc⟩ := hr (by omega)
      cases e
      have hb := hg j hj'
      rw [hc j (by omega)]
      simp only [u8F, List.getElem_map, List.getElem_range]
      congr 2
      rw [UInt8.toNat_ofNat']; omega)
    simpa [strOf] using this

end Go.Proofs.Ytmmgcmbniidieaa.GmOwn
