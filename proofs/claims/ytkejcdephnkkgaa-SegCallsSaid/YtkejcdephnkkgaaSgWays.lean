/- What the program's and the document's calls answer alike, of segments in memories of any regions. -/
import Derived.Test.YtkejcdephnkkgaaSgScd
import Derived.Test.YtkejcdephnkkgaaSgGad
import Derived.Test.YtkejcdephnkkgaaSgLives
namespace Go.Proofs.Ytkejcdephnkkgaa.SgWays
open Go.RowKit Rw Sg SgCheck SgTake SgTotal SgCut SgMath SgR2 SgConcat GmFind GmWord GmCheck GmNew GmLoad GmTwo GmTwin SgPair SgMem SgScp SgScd SgGap SgGad SgLives
set_option linter.unusedVariables false
set_option linter.unusedSimpArgs false

theorem in_nil_p (v : Value) (w : World) : Calls Try.prog 16 #[.pointer none, v] w fun e w' => e = .returned (.int .i64 1) ∧ Below w.heap.size w w' :=
  Eng.runsAny (E := Eng.Env.of Try.prog) (f := 1000) (args := [.pointer none, Eng.bot]) envOk (by kernel_rfl) (by kernel_rfl) (.cons .ptr0 (.cons (.bot _ _) .nil)) w
theorem in_nil_d (v : Value) (w : World) : Calls Try.prog 17 #[.pointer none, v] w fun e w' => e = .returned (.int .i64 1) ∧ Below w.heap.size w w' :=
  Eng.runsAny (E := Eng.Env.of Try.prog) (f := 1000) (args := [.pointer none, Eng.bot]) envOk (by kernel_rfl) (by kernel_rfl) (.cons .ptr0 (.cons (.bot _ _) .nil)) w

/-- Both memories of a list. -/
def Mems (B : Nat) (W : World) (vm vr : Value) (ev : Int) : Prop :=
  (ev = 2 ∧ vm = .pointer none ∧ vr = .pointer none) ∨
  (ev = 0 ∧ ∃ (P : Nums) (S : Nat) (T : World → (Nat → Int) → (Nat → Int) → Prop), Pair P S W.heap.size T ∧ P.B = B ∧ vm = .pointer (some ⟨P.m, 0, none⟩) ∧ vr = .pointer (some ⟨P.mm, 0, none⟩) ∧ (∀ i, i < P.k → 0 ≤ P.r.st i) ∧ (∀ i, i < P.k → P.r.len i ≤ 1048576) ∧ S ≤ 1048576 ∧ T W (fun _ => 0) (fun _ => 0))
def PN (k : Nat) (r : Rg) (w : World) (vm : Value) (ev : Int) (w' : World) : Prop :=
  (ev = 2 ∧ ¬ GmTwin.Good k r ∧ vm = .pointer none) ∨ (ev = 0 ∧ GmTwin.Good k r ∧ ∃ m, vm = .pointer (some ⟨m, 0, none⟩) ∧ PNew w' m k r ∧ w.heap.size ≤ m)
def QN (k : Nat) (r : Rg) (w : World) (vr : Value) (ev : Int) (w' : World) : Prop :=
  (ev = 2 ∧ ¬ GmTwin.Good k r ∧ vr = .pointer none) ∨ (ev = 0 ∧ GmTwin.Good k r ∧ ∃ m, vr = .pointer (some ⟨m, 0, none⟩) ∧ QNew w w' m k r)
theorem new_p (A : Option Addr) (k c : Nat) (r : Rg) (w : World) (hr : Raw r k) (h : GmCheck.Lst w w.heap.size A k r) :
    Calls Try.prog 9 #[.slice A k c] w fun e w' => ∃ vm ev, e = .returned (.tuple #[vm, .int .i64 ev]) ∧ PN k r w vm ev w' ∧ Below w.heap.size w w' := by
  by_cases hg : GmTwin.Good k r
  · exact (SgPair.p_new A k c r w hr hg h).mono fun e w' ⟨m, he, hp, hm, hb⟩ => ⟨_, _, he, .inr ⟨rfl, hg, m, rfl, hp, hm⟩, hb⟩
  · refine (new_bad A k c r w hr hg h).mono ?_
    rintro e w' ⟨he, hb⟩
    exact ⟨_, _, he, .inl ⟨rfl, hg, rfl⟩, hb⟩
theorem new_d (A : Option Addr) (k c : Nat) (r : Rg) (w : World) (hr : Raw r k) (hA : A = none → c = 0) (h : GmCheck.Lst w w.heap.size A k r) :
    Calls Try.prog 11 #[.slice A k c] w fun e w' => ∃ vr ev, e = .returned (.tuple #[vr, .int .i64 ev]) ∧ QN k r w vr ev w' ∧ Below w.heap.size w w' := by
  by_cases hg : GmTwin.Good k r
  · refine (SgPair.q_new A k c r w hr hg hA h).mono ?_
    rintro e w' ⟨m, he, hq⟩
    have hb : Below w.heap.size w w' := by
      obtain ⟨_, _, _, _, _, _, _, _, _, _, hb⟩ := hq
      exact hb
    exact ⟨_, _, he, .inr ⟨rfl, hg, m, rfl, hq⟩, hb⟩
  · refine (r_new_bad A k c r w hr hg h).mono ?_
    rintro e w' ⟨he, hb⟩
    exact ⟨_, _, he, .inl ⟨rfl, hg, rfl⟩, hb⟩
theorem len_most {r : Rg} {k : Nat} (hr : Raw r k) (hs : ∀ i, i < k → Step r i) : ∀ i, i < k → r.len i ≤ 1048576 := fun i hi => by
  have h1 := (hs i hi).2.1
  have h2 := sum_lo hr i (by omega)
  omega
theorem mems {B k : Nat} {r : Rg} {w1 W1 w2 W2 : World} {vm vr : Value} {ev ev' : Int} (hr : Raw r k) (hB : B ≤ w1.heap.size) (hp : PN k r w1 vm ev W1) (hb : Below W1.heap.size W1 w2) (hq : QN k r w2 vr ev' W2) : ev' = ev ∧ Mems B W2 vm vr ev := by
  rcases hp with ⟨rfl, hg, rfl⟩ | ⟨rfl, hg, m, rfl, hp, hm⟩
  · rcases hq with ⟨rfl, _, rfl⟩ | ⟨_, hg', _⟩
    · exact ⟨rfl, .inl ⟨rfl, rfl, rfl⟩⟩
    · exact absurd hg' hg
  · rcases hq with ⟨_, hg', _⟩ | ⟨rfl, _, mm, rfl, hq⟩
    · exact absurd hg hg'
    · refine ⟨rfl, .inr ⟨rfl, ?_⟩⟩
      obtain ⟨P, S, T, hP, e1, e2, e3, e4, e5, hS, hT⟩ := pair_new hr hg hp (Nat.le_trans hB hm) hb hq
      refine ⟨P, S, T, hP, e1, by rw [e2], by rw [e3], ?_, ?_, hS, hT⟩
      · rw [e4, e5]; exact fun i hi => sum_lo hr i (by omega)
      · rw [e4, e5]; exact fun i hi => len_most (r := r) hr hg.2 i hi
theorem ins {B : Nat} {W2 : World} {vm vr : Value} {ev : Int} (h : Mems B W2 vm vr ev) (l : List S3) (hn : l.length ≤ 1000000) (hraw : ∀ x ∈ l, x.Raw) :
    ∃ i : Int, ∀ (W : World), Below W2.heap.size W2 W → ∀ (A : Option Addr) (c : Nat), Sg.Lst W W.heap.size A l →
      (Calls Try.prog 16 #[vm, .slice A l.length c] W fun e w' => e = .returned (.int .i64 i) ∧ Below W.heap.size W w') ∧
      (Calls Try.prog 17 #[vr, .slice A l.length c] W fun e w' => e = .returned (.int .i64 i) ∧ Below W.heap.size W w') := by
  rcases h with ⟨rfl, rfl, rfl⟩ | ⟨rfl, P, S, T, hP, _, rfl, rfl, _, _, _, hT⟩
  · exact ⟨1, fun W hW A c hl => ⟨in_nil_p _ W, in_nil_d _ W⟩⟩
  · exact ⟨inL P.r P.k l, fun W hW A c hl => ⟨in_p hP _ _ A c l W (hP.below hT hW) hn hraw hl, in_d hP _ _ A c l W (hP.below hT hW) hn hraw hl⟩⟩

section
variable {P : Nums} {S top : Nat} {T : World → (Nat → Int) → (Nat → Int) → Prop}
theorem scats (hP : Pair P S top T) (hst : ∀ i, i < P.k → 0 ≤ P.r.st i) (l : List S3) (hn : l.length ≤ 1000000) (hraw : ∀ x ∈ l, x.Raw) (N : Nat) (hN : N ≤ 20000) (gb : Nat → Int) (hgb : ∀ j, 0 ≤ gb j ∧ gb j ≤ 255) (g : Nat → Int) :
    ∃ (n e : Int) (g' : Nat → Int),
      (∀ (W : World) (gd : Nat → Int) (A AB : Option Addr) (c cb : Nat), T W g gd → top ≤ W.heap.size → Sg.Lst W W.heap.size A l → IsRow W W.heap.size 1 AB N (fun j => .int .u8 (gb j)) → N ≤ cb → (0 < N → ∀ ad, AB = some ad → ad.block < P.B ∨ top ≤ ad.block) →
        Calls Try.prog 24 #[.pointer (some ⟨P.m, 0, none⟩), .slice A l.length c, .slice AB N cb] W fun x W' => x = .returned (.tuple #[.int .i64 n, .int .i64 e]) ∧ T W' g' gd ∧ Chg P.B top W W') ∧
      (∀ (W : World) (gp : Nat → Int) (A AB : Option Addr) (c cb : Nat), T W gp g → top ≤ W.heap.size → Sg.Lst W W.heap.size A l → (0 < l.length → ∀ ad, A = some ad → ad.block < P.B ∨ top ≤ ad.block) → IsRow W W.heap.size 1 AB N (fun j => .int .u8 (gb j)) → N ≤ cb → (0 < N → ∀ ad, AB = some ad → ad.block < P.B ∨ top ≤ ad.block) →
        Calls Try.prog 27 #[.pointer (some ⟨P.mm, 0, none⟩), .slice A l.length c, .slice AB N cb] W fun x W' => x = .returned (.tuple #[.int .i64 n, .int .i64 e]) ∧ T W' gp g' ∧ Chg P.B top W W') := by
  by_cases hi : inL P.r P.k l = 0
  · have hbuf := Buf.of hraw (inL_ok hi).1
    have e1 : takeL (N : Int) (partL l true) = lft N 0 l := by
      unfold lft
      rw [part_only hbuf]
      simp
    refine ⟨sm (lft N 0 l), 0, scG P gb 0 (lft N 0 l) g, ?_, ?_⟩
    · intro W gd A AB c cb hT ht hl hr hc hAB
      have := scatter_p hP hst g gd A c l AB N cb gb W hT ht hraw hl hi hr hgb hc hN hAB
      rwa [e1] at this
    · intro W gp A AB c cb hT ht hl hA hr hc hAB
      exact scatter_d hP hst gp g A c l AB N cb gb W hT ht hraw hl hi hA hr hgb hc hN hAB
  · refine ⟨0, inL P.r P.k l, g, ?_, ?_⟩
    · intro W gd A AB c cb hT ht hl hr hc hAB
      exact (scatter_p_bad hP g gd A c l _ W hT hn hraw hl hi).mono fun x W' ⟨he, hb⟩ => ⟨he, hP.below hT hb, Chg.of_below hb⟩
    · intro W gp A AB c cb hT ht hl hA hr hc hAB
      exact (scatter_d_bad hP gp g A c l _ W hT hn hraw hl hi).mono fun x W' ⟨he, hb⟩ => ⟨he, hP.below hT hb, Chg.of_below hb⟩

theorem place_len {r : Rg} {k o : Nat} {a n : Int} (hl : ∀ i, i < k → r.len i ≤ 1048576) (h : place r k a n = some o) : n ≤ 1048576 := by
  unfold place at h
  by_cases ho : okB r k (idx r a k) a n = true
  · unfold okB at ho
    simp only [Bool.and_eq_true, decide_eq_true_eq] at ho
    obtain ⟨⟨⟨k1, k2⟩, k3⟩, k4⟩ := ho
    have := hl _ k1
    unfold Rg.end_ at k4
    omega
  · rw [if_neg ho] at h
    cases h
theorem sm_small {r : Rg} {k : Nat} (hl : ∀ i, i < k → r.len i ≤ 1048576) (l : List S3) (h : allIn r k l = true) : sm l ≤ l.length * 1048576 := by
  induction l with
  | nil => exact Int.le_refl _
  | cons x t ih =>
    rw [allIn_cons, Bool.and_eq_true] at h
    obtain ⟨o, ho⟩ := Option.isSome_iff_exists.1 h.1
    have h1 := place_len hl ho
    have h2 := ih h.2
    rw [sm_cons, List.length_cons]
    omega
def IsBy (ns : List Int) : Prop := ∀ z ∈ ns, 0 ≤ z ∧ z ≤ 255
theorem ga_bytes {g : Nat → Int} (hg : ∀ j, 0 ≤ g j ∧ g j ≤ 255) (r : Rg) (k : Nat) (l : List S3) : IsBy (gaL r k g l) := by
  induction l with
  | nil => exact fun z hz => by cases hz
  | cons x t ih =>
    intro z hz
    rw [gaL_cons, List.mem_append] at hz
    rcases hz with hz | hz
    · unfold segBytes at hz
      obtain ⟨j, _, rfl⟩ := List.mem_map.1 hz
      exact hg _
    · exact ih z hz
/-- Bytes and an error. -/
def GaP (ns : List Int) (ev : Int) (w : World) (e : Ending) (w' : World) : Prop := ∃ (A : Option Addr) (c : Nat), e = .returned (.tuple #[.slice A ns.length c, .int .i64 ev]) ∧ IsRow w' w'.heap.size 1 A ns.length (fun j => .int .u8 (ns.getD j 0)) ∧ Below w.heap.size w w'
theorem join_ga {ns : List Int} {w w' : World} {e : Ending} (h : JoinP ns w e w') : GaP ns 0 w e w' := by
  obtain ⟨A, c, he, ho, hb⟩ := h
  refine ⟨A, c, he, (IsRow.of_own ho).congr fun j hj => ?_, hb⟩
  have hj' : j < ns.length := by omega
  simp [u8s, List.getD_eq_getElem?_getD, hj']
theorem gaths (hP : Pair P S top T) (hst : ∀ i, i < P.k → 0 ≤ P.r.st i) (hlen : ∀ i, i < P.k → P.r.len i ≤ 1048576) (l : List S3) (hn : l.length ≤ 1000000) (hraw : ∀ x ∈ l, x.Raw) (g : Nat → Int) (hg : ∀ j, 0 ≤ g j ∧ g j ≤ 255) :
    ∃ (ns : List Int) (e : Int), IsBy ns ∧
      (∀ (W : World) (gd : Nat → Int) (A : Option Addr) (c : Nat), T W g gd → Sg.Lst W W.heap.size A l → Calls Try.prog 28 #[.pointer (some ⟨P.m, 0, none⟩), .slice A l.length c] W (GaP ns e W)) ∧
      (∀ (W : World) (gp : Nat → Int) (A : Option Addr) (c : Nat), T W gp g → Sg.Lst W W.heap.size A l → Calls Try.prog 29 #[.pointer (some ⟨P.mm, 0, none⟩), .slice A l.length c] W (GaP ns e W)) := by
  by_cases hi : inL P.r P.k l = 0
  · have hk := inL_ok hi
    have hbuf := Buf.of hraw hk.1
    have hs := sm_small hlen l hk.2
    have h64 := hbuf.len
    have hrw := hbuf.rd_wr
    have hw0 := hbuf.wr0
    have hrd : rd l ≤ 1000000000 := by omega
    have e1 := part_only hbuf false
    have e2 := sm_part_false hbuf
    refine ⟨gaL P.r P.k g (onlyL false l), 0, ga_bytes hg _ _ _, ?_, ?_⟩
    · intro W gd A c hT hl
      have := gather_ok hP g gd A c l W hT hraw hl hi hst hrd
      rw [e1] at this
      exact this.mono fun x W' h => join_ga h
    · intro W gp A c hT hl
      exact (gather_d hP gp g A c l W hT hraw hl hi (by rw [← e1, e2]; exact hrd)).mono fun x W' h => join_ga h
  · refine ⟨[], inL P.r P.k l, (fun z hz => by cases hz), ?_, ?_⟩
    · intro W gd A c hT hl
      exact (gather_bad hP g gd A c l W hT hn hraw hl hi).mono fun x W' ⟨he, hb⟩ => ⟨none, 0, he, fun h => absurd h (by decide), hb⟩
    · intro W gp A c hT hl
      exact (gather_d_bad hP gp g A c l W hT hn hraw hl hi).mono fun x W' ⟨he, hb⟩ => ⟨none, 0, he, fun h => absurd h (by decide), hb⟩
end

end Go.Proofs.Ytkejcdephnkkgaa.SgWays
