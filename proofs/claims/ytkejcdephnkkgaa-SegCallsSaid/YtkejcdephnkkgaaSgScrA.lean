/- The law SegCalls: bytes of their own, bytes as strings; calls met in a region that draws its order. -/
import Derived.Test.YtkejcdephnkkgaaSgWays
import Derived.Test.YtkejcdephnkkgaaSgKit
import Derived.Test.YtkejcdephnkkgaaSgR3
import Derived.Test.YtkejcdephnkkgaaSgR4
import Derived.Test.YtkejcdephnkkgaaMGm1
import Derived.Test.YtkejcdephnkkgaaAssert
import Derived.Test.YtkejcdephnkkgaaHeld
import Derived.Laws.IdiomStrings
import Derived.Laws.BytesArg
import Derived.Shelf.Abstract
namespace Go.Proofs.Ytkejcdephnkkgaa.Asrt
open Go.RowKit Rw
def As.cut (size N : Nat) (F : Nat → Value) : As := ⟨fun v w => ∃ A c, v = .slice A N c ∧ IsRow w w.heap.size size A N F, fun _ _ _ ⟨A, c, e, h⟩ hb => ⟨A, c, e, (h.below hb).more hb.size⟩⟩
end Go.Proofs.Ytkejcdephnkkgaa.Asrt
namespace Go.Proofs.Ytkejcdephnkkgaa.SgScrA
open Go.RowKit Rw Le GmNew SgPair
set_option linter.unusedVariables false
set_option linter.unusedSimpArgs false

abbrev u8F (g : Nat → Int) : Nat → Value := fun j => .int .u8 (g j)
def Bytes8 (g : Nat → Int) (n : Nat) : Prop := ∀ j, j < n → 0 ≤ g j ∧ g j ≤ 255
theorem own_cap {w : World} {base : Nat} {e : TypeId} {size n c : Nat} {A : Option Addr} {xs : List Value} (h : w.ownsRow base e size (.slice A n c) n xs) : n ≤ c := by
  rcases h.2 with ⟨h1, h2⟩ | ⟨g, cap, cur, h1, _, _, h2, _⟩
  · omega
  · injection h1 with _ _ h3; omega
/-- A copy of bytes. -/
def OwnP (g : Nat → Int) (n : Nat) (w : World) (x : Ending) (w' : World) : Prop :=
  ∃ (A' : Option Addr) (c' : Nat), x = .returned (.slice A' n c') ∧ n ≤ c' ∧ IsRow w' w'.heap.size 1 A' n (u8F g) ∧ (∀ ad, A' = some ad → w.heap.size ≤ ad.block) ∧ Below w.heap.size w w'
set_option maxRecDepth 100000 in
set_option maxHeartbeats 4000000 in
theorem own_any (A : Option Addr) (n c : Nat) (g : Nat → Int) (w : World) (hn : n ≤ 1000000000) (h : IsRow w w.heap.size 1 A n (u8F g)) (hA : A = none → n = 0 ∧ c = 0) :
    Calls Try.prog 26 #[.slice A n c] w (OwnP g n w) := by
  unfold OwnP
  obtain ⟨i0, hi, hz0, hz1, hz2⟩ := GmNew.u8info
  have HI0 := Lib.hid hi
  have HI1 := Lib.hid hz0
  have HI2 := Lib.hid hz1
  have HI3 := Lib.hid hz2
  have HO := Lib.hid (World.ownsRow_made (e := 5) (size := 1) w #[] 0 (Nat.le_refl _) (by unfold maxLen; omega) rfl)
  have HN := Lib.hid (show ∀ ad, A = some ad → ∀ j u, ((List.range n).map (u8F g))[j]? = some u → (w.alloc (.cells #[] 5)).cell? (ad.add j) = some u from by
    intro ad e j u hu
    have hj : j < n := by have := (List.getElem?_eq_some_iff.1 hu).1; simpa using this
    obtain ⟨ad', e', hlt, hc⟩ := h (by omega)
    rw [e] at e'
    cases e'
    rw [World.cell?_alloc_lt _ _ _ (by rw [block_of_add]; exact hlt), hc j (by omega), ← hu]
    simp [hj])
  have HL := Lib.hid (show ((List.range n).map (u8F g)).length = n * 1 from by simp)
  have HA := Lib.hid hA
  have H1 := Lib.hid (show ∀ u ∈ (List.range n).map (u8F g), u.oneCell' = true from by simp [u8F, Value.oneCell'])
  clear hi hz0 hz1 hz2 h hA
  go_enter Try.func26, Try.ntmps26
  go_wp2_with (at_builtin; refine wpList_append_opt rfl _ _ 24 rfl w.heap.size 5 i0 (.int .u8 0) 1 1 Try.underlying24 HI0.out HI1.out HI2.out HI3.out rfl (by decide) (.slice (some ⟨w.heap.size, 0, none⟩) 0 0) 0 [] rfl HO.out A n c ((List.range n).map (u8F g)) rfl HA.out HL.out HN.out H1.out (by unfold maxLen; omega) (by omega) (by rw [World.size_alloc]; omega) ?_)
  intro v' W hown' hg'
  have hown2 : W.ownsRow w.heap.size 5 1 v' n ((List.range n).map (u8F g)) := by simpa using hown'
  obtain ⟨A', c', rfl⟩ := GmNew.own_slice hown2
  have hcap := own_cap hown2
  have hb : Below w.heap.size w W := ((Below.refl w.heap.size w).alloc (Nat.le_refl _) _).grown hg' (by rw [World.size_alloc]; omega) (fun b e => by cases e; exact Nat.le_refl _)
  have hrow : IsRow W W.heap.size 1 A' n (u8F g) := (IsRow.of_own hown2).congr fun j hj => by
    have hj' : j < n := by omega
    simp [List.getD_eq_getElem?_getD, hj']
  have hblk : ∀ ad, A' = some ad → w.heap.size ≤ ad.block := fun ad e => own_block hown2 ad.block (by rw [e]; rfl)
  have HH := Lib.hid (And.intro hcap (And.intro hrow (And.intro hblk hb)))
  clear hown' hg' hown2 hb hrow hcap hblk
  go_wp2_with fail
  go_ret
  exact ⟨A', c', rfl, HH.out.1, HH.out.2.1, HH.out.2.2.1, HH.out.2.2.2⟩

/-- Bytes as a string. -/
def strOf (g : Nat → Int) (n : Nat) : ByteArray := ⟨((List.range n).map fun j => UInt8.ofNat (g j).toNat).toArray⟩
theorem run_str {P : Program} (src dst e : TypeId) (hs : P.underlying src = some (.slice e)) (he : P.underlying e = some (.int .u8)) (hd : P.underlying dst = some .string) (A : Option Addr) (n c B : Nat) (g : Nat → Int) (W : World) (hg : Bytes8 g n) (hr : IsRow W B 1 A n (u8F g)) :
    (convert src dst (.slice A n c)).run P W = .ok (.string (strOf g n)) W := by
  cases A with
  | none =>
    have h0 : n = 0 := by
      rcases Nat.eq_zero_or_pos n with h | h
      · exact h
      · obtain ⟨ad, e, _⟩ := hr h; cases e
    subst h0
    exact run_convert_bytes_nil (P := P) W src e hs he 0 c dst hd
  | some a =>
    have := run_convert_bytes_back (P := P) W src dst e a c ((List.range n).map fun j => UInt8.ofNat (g j).toNat) hs he hd (fun j hj => by
      have hj' : j < n := by simpa using hj
      obtain ⟨ad, e, _, hc⟩ := hr (by omega)
      cases e
      have hb := hg j hj'
      rw [hc j (by omega)]
      simp only [u8F, List.getElem_map, List.getElem_range]
      congr 2
      rw [UInt8.toNat_ofNat']; omega)
    simpa [strOf] using this

theorem rowAt {w W : World} {s n : Nat} {A : Option Addr} {F : Nat → Value} (h : IsRow w w.heap.size s A n F) (hb : Below w.heap.size w W) : IsRow W W.heap.size s A n F := (h.below hb).more hb.size
theorem open_u8s {W : World} {v : Value} {zs : List Int} (h : Args.IsInts W .u8 v zs) : ∃ (A : Option Addr) (c : Nat), v = .slice A zs.length c ∧ zs.length ≤ c ∧ c ≤ maxLen ∧ IsRow W W.heap.size 1 A zs.length (u8F fun j => zs.getD j 0) ∧ (A = none → zs.length = 0 ∧ c = 0) ∧ ∀ z ∈ zs, 0 ≤ z ∧ z ≤ 255 := by
  rcases h with ⟨rfl, rfl⟩ | ⟨a, cap, rfl, h1, h2, h3, h4⟩
  · exact ⟨none, 0, rfl, Nat.le_refl _, by decide, IsRow.none_, fun _ => ⟨rfl, rfl⟩, fun z hz => (by cases hz)⟩
  · refine ⟨some a, cap, rfl, h1, h2, fun hn => ⟨a, rfl, (h3 0 hn).2, fun j hj => (h3 j (by omega)).1⟩, fun e => (by cases e), fun z hz => ?_⟩
    exact bounds_u8 (h4 z hz)

section
variable {w V W : World} {L : List (Nat × Nat × Value)} {R : Ending → World → Prop} {y y1 y2 : Value}
theorem asrt_img {P : Program} {f : FuncId} {x : Value} {S : Nat} {g : Nat → Int} (hC : Lib.Held w V L W) (e : y = x) (h : Calls P f #[x] W (ImgP S g W)) (hR : ∀ v w', (Asrt.As.cut 1 S (u8F g)).φ v w' → Lib.Held w V L w' → Below W.heap.size W w' → R (.returned v) w') : Calls P f #[y] W R := by
  subst e
  exact h.mono fun e w' ⟨A, c, he, hr, hb⟩ => by subst he; exact hR _ _ ⟨_, _, rfl, hr⟩ (hC.step hb) hb
theorem asrt_str {o : Oper} {a : Act} {s n c : Nat} {A : Option Addr} {g : Nat → Int} (hb : a.tmps.getD s undef = .slice A n c) (hg : Bytes8 g n) (hr : IsRow W W.heap.size 1 A n (u8F g)) (hop : o.op = .convert 24 9 (.tmp s)) :
    (execOp a.eval o).run Try.prog W = .ok (.value (.string (strOf g n))) W := by
  have := run_str (P := Try.prog) 24 9 5 Try.underlying24 Try.underlying5 Try.underlying9 A n c W.heap.size g W hg hr
  simp only [execOp, hop, Act.eval, hb, Sem.run_bind, this, Result.andThen_ok, Sem.run_pure]
end
end Go.Proofs.Ytkejcdephnkkgaa.SgScrA
