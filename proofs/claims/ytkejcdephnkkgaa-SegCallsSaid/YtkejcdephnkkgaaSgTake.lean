
/- Segments: what a queue's take takes and leaves. -/
import Derived.Test.YtkejcdephnkkgaaSgClone
import Derived.RegionTactic
import Derived.BigRegion
namespace Go.Proofs.Ytkejcdephnkkgaa.SgTake
open Go.RowKit Rw Sg SgCheck SgClone
set_option linter.unusedVariables false
set_option linter.unusedSimpArgs false

/-- A queue: its own block, the row where its segments lie (both between B and E), which may be written. -/
structure QAt (w : World) (B E b : Nat) (A : Option Addr) (c : Nat) (l : List S3) : Prop where
  self : w.cell? ⟨b, 0, none⟩ = some (.slice A l.length c)
  fz : w.frozen? ⟨b, 0, none⟩ = false
  ge : B ≤ b
  lt : b < E
  cap : l.length ≤ c
  row : 0 < l.length → ∃ g o, A = some ⟨g, o, none⟩ ∧ B ≤ g ∧ g < E ∧ g ≠ b ∧ ∀ j, j < l.length * 3 → w.cell? ⟨g, o + j, none⟩ = some (cell l j) ∧ w.frozen? ⟨g, o + j, none⟩ = false

theorem QAt.keep {w w' : World} {B E b : Nat} {A : Option Addr} {c : Nat} {l : List S3} (h : QAt w B E b A c l) (hb : ∀ i, i < E → w'.heap[i]? = w.heap[i]?) : QAt w' B E b A c l := by
  refine ⟨(World.cell?_of_block (hb _ h.lt)).trans h.self, (World.frozen?_of_block (hb _ h.lt)).trans h.fz, h.ge, h.lt, h.cap, fun h0 => ?_⟩
  obtain ⟨g, o, h1, h2, h3, h4, h5⟩ := h.row h0
  exact ⟨g, o, h1, h2, h3, h4, fun j hj => ⟨(World.cell?_of_block (a := ⟨g, o + j, none⟩) (hb _ h3)).trans (h5 j hj).1, (World.frozen?_of_block (a := ⟨g, o + j, none⟩) (hb _ h3)).trans (h5 j hj).2⟩⟩
theorem QAt.grown {w w' : World} {B E b : Nat} {A : Option Addr} {c : Nat} {l : List S3} {r : Option Nat} (h : QAt w B E b A c l) (hE : E ≤ w.heap.size) (hg : w.grownBy w' r) (hr : ∀ g, r = some g → E ≤ g) : QAt w' B E b A c l :=
  h.keep fun i hi => hg.block i (by omega) (fun e => by have := hr i e.symm; omega)
theorem QAt.alloc {w : World} {B E b : Nat} {A : Option Addr} {c : Nat} {l : List S3} (h : QAt w B E b A c l) (hE : E ≤ w.heap.size) (o : Obj) : QAt (w.alloc o) B E b A c l :=
  h.keep fun i hi => Below.heap_alloc w o i (by omega)

theorem QAt.drew {w : World} {B E b : Nat} {A : Option Addr} {c : Nat} {l : List S3} (h : QAt w B E b A c l) : QAt w.drew B E b A c l := ⟨h.self, h.fz, h.ge, h.lt, h.cap, h.row⟩
theorem QAt.cutHead {wr : World} {B E b g o c : Nat} {x : S3} {rest : List S3} (h : QAt wr B E b (some ⟨g, o, none⟩) c (x :: rest)) (y : S3) :
    QAt (((wr.setCell ⟨g, o, none⟩ (.int .u64 y.a)).setCell ⟨g, o + 1, none⟩ (.int .u32 y.n)).setCell ⟨g, o + 2, none⟩ (.bool y.w)) B E b (some ⟨g, o, none⟩) c (y :: rest) := by
  obtain ⟨g', o', he, h2, h3, h4, h5⟩ := h.row (by simp)
  cases he
  have hb : ∀ (a : Nat) (v : Value) (W : World), W.heap[b]? = wr.heap[b]? → (W.setCell ⟨g, a, none⟩ v).heap[b]? = wr.heap[b]? := fun a v W hW => (Below.heap_setCell W ⟨g, a, none⟩ v b (fun e => h4 e.symm)).trans hW
  have hbb := hb (o + 2) (.bool y.w) _ (hb (o + 1) (.int .u32 y.n) _ (hb o (.int .u64 y.a) wr rfl))
  refine ⟨(World.cell?_of_block (a := ⟨b, 0, none⟩) hbb).trans h.self, (World.frozen?_of_block (a := ⟨b, 0, none⟩) hbb).trans h.fz, h.ge, h.lt, h.cap, fun _ => ⟨g, o, rfl, h2, h3, h4, fun j hj => ?_⟩⟩
  have hj' : j < (x :: rest).length * 3 := hj
  obtain ⟨k1, k2⟩ := h5 j hj'
  refine ⟨?_, ?_⟩
  · match j, hj, k1 with
    | 0, _, k1 =>
      rw [World.cell?_setCell_other _ _ _ _ (by simp), World.cell?_setCell_other _ _ _ _ (by simp)]
      exact World.cell?_setCell_same _ _ _ k1
    | 1, _, k1 =>
      rw [World.cell?_setCell_other _ _ _ _ (by simp)]
      exact World.cell?_setCell_same _ _ _ (u := cell (x :: rest) 1) ((World.cell?_setCell_other _ _ _ _ (by simp)).trans k1)
    | 2, _, k1 =>
      exact World.cell?_setCell_same _ _ _ (u := cell (x :: rest) 2) ((World.cell?_setCell_other _ _ _ _ (by simp)).trans ((World.cell?_setCell_other _ _ _ _ (by simp)).trans k1))
    | j + 3, _, k1 =>
      rw [World.cell?_setCell_other _ _ _ _ (by simp), World.cell?_setCell_other _ _ _ _ (by simp), World.cell?_setCell_other _ _ _ _ (by simp), k1]
      rw [show j + 3 = 3 + j from by omega, cell_succ, cell_succ]
  · simp only [World.frozen?_setCell]
    exact k2

theorem QAt.tail {W : World} {B E b g o c : Nat} {x : S3} {rest : List S3} (h : QAt W B E b (some ⟨g, o, none⟩) c (x :: rest)) :
    QAt (W.setCell ⟨b, 0, none⟩ (.slice (if c = 1 then some ⟨g, o, none⟩ else some ⟨g, o + 3, none⟩) rest.length (c - 1))) B E b (if c = 1 then some ⟨g, o, none⟩ else some ⟨g, o + 3, none⟩) (c - 1) rest := by
  have hc := h.cap
  simp only [List.length_cons] at hc
  refine ⟨World.cell?_setCell_same _ _ _ h.self, by rw [World.frozen?_setCell]; exact h.fz, h.ge, h.lt, by omega, fun h0 => ?_⟩
  obtain ⟨g', o', he, h2, h3, h4, h5⟩ := h.row (by simp)
  cases he
  refine ⟨g, o + 3, by rw [if_neg (by omega)], h2, h3, h4, fun j hj => ?_⟩
  obtain ⟨k1, k2⟩ := h5 (3 + j) (by simp only [List.length_cons]; omega)
  rw [World.frozen?_setCell, World.cell?_setCell_other _ _ _ _ (by intro e; injection e with e1; exact h4 e1.symm), Nat.add_assoc, k1, cell_succ]
  exact ⟨rfl, k2⟩

theorem takeL_cons (n : Int) (x : S3) (r : List S3) : takeL n (x :: r) = if n ≤ 0 then [] else if n < x.n then [⟨x.a, n, x.w⟩] else x :: takeL (n - x.n) r := rfl
theorem dropL_cons (n : Int) (x : S3) (r : List S3) : dropL n (x :: r) = if n ≤ 0 then x :: r else if n < x.n then ⟨x.a + n, x.n - n, x.w⟩ :: r else dropL (n - x.n) r := rfl
theorem takeL_zero (l : List S3) : takeL 0 l = [] := by cases l <;> rfl
theorem dropL_zero (l : List S3) : dropL 0 l = l := by cases l <;> rfl

theorem grown0 (w : World) (r : Option Nat) : w.grownBy w r := ⟨rfl, rfl, rfl, Nat.le_refl _, fun _ _ _ => rfl⟩
theorem QAt.more {w : World} {B E E' b : Nat} {A : Option Addr} {c : Nat} {l : List S3} (h : QAt w B E b A c l) (hE : E ≤ E') : QAt w B E' b A c l := by
  refine ⟨h.self, h.fz, h.ge, Nat.lt_of_lt_of_le h.lt hE, h.cap, fun h0 => ?_⟩
  obtain ⟨g, o, h1, h2, h3, h4, h5⟩ := h.row h0
  exact ⟨g, o, h1, h2, by omega, h4, h5⟩
/-- What take does. -/
def TakeP (B b : Nat) (T D : List S3) (w : World) (e : Ending) (w' : World) : Prop := ∃ (A' A5 : Option Addr) (c' c5 : Nat), e = .returned (.slice A5 T.length c5) ∧ w'.ownsRow w.heap.size 73 3 (.slice A5 T.length c5) T.length (row T) ∧ QAt w' B w.heap.size b A' c' D ∧ Below B w w' ∧ w.heap.size ≤ w'.heap.size

def Stop (p : Prop) : Prop := p
theorem stop_of {p : Prop} (h : Stop p) : p := h
theorem single_cells {W : World} (x : S3) : ∀ j v, (row [x])[j]? = some v → ((W.alloc (.cells #[.int .u64 x.a, .int .u32 x.n, .bool x.w] 73))).cell? ((⟨W.heap.size, 0, none⟩ : Addr).add j) = some v := by
  intro j v hj
  rw [row_single] at hj
  have hr := World.rowIs_alloc W #[.int .u64 x.a, .int .u32 x.n, .bool x.w] 73 (fun i => if i = 0 then .int .u64 x.a else if i = 1 then .int .u32 x.n else .bool x.w) (fun i hi => by
    match i, hi with
    | 0, _ => rfl
    | 1, _ => rfl
    | 2, _ => rfl)
  match j, hj with
  | 0, hj => cases hj; exact hr.cell (i := 0) (by simp)
  | 1, hj => cases hj; exact hr.cell (i := 1) (by simp)
  | 2, hj => cases hj; exact hr.cell (i := 2) (by simp)

set_option maxHeartbeats 1000000 in
/-- What is known behind the store into the queue's first segment. -/
theorem after_cut {wr w : World} {B E b g o c' TN c5 : Nat} {A5 : Option Addr} {a m : Int} {t : Bool} {rest tk : List S3} (p : Int) (ho : wr.ownsRow E 73 3 (.slice A5 TN c5) TN (row tk)) (hq : QAt wr B E b (some ⟨g, o, none⟩) c' (⟨a, m, t⟩ :: rest))
    (hEs : E ≤ wr.heap.size) (hBg : B ≤ g) (hgE : g < E) (hb : Below B w wr) (hB : B ≤ E) :
    QAt (((((wr.setCell ⟨g, o, none⟩ (.int .u64 (a + p))).setCell ⟨g, o + 1, none⟩ (.int .u32 (m - p))).setCell ⟨g, o + 2, none⟩ (.bool t)).alloc (.cells #[.int .u64 a, .int .u32 m, .bool t] 73)).drew) B E b (some ⟨g, o, none⟩) c' (⟨a + p, m - p, t⟩ :: rest) ∧
    (((((wr.setCell ⟨g, o, none⟩ (.int .u64 (a + p))).setCell ⟨g, o + 1, none⟩ (.int .u32 (m - p))).setCell ⟨g, o + 2, none⟩ (.bool t)).alloc (.cells #[.int .u64 a, .int .u32 m, .bool t] 73)).drew).ownsRow E 73 3 (.slice A5 TN c5) TN (row tk) ∧
    Below B w (((((wr.setCell ⟨g, o, none⟩ (.int .u64 (a + p))).setCell ⟨g, o + 1, none⟩ (.int .u32 (m - p))).setCell ⟨g, o + 2, none⟩ (.bool t)).alloc (.cells #[.int .u64 a, .int .u32 m, .bool t] 73)).drew) ∧ (((((wr.setCell ⟨g, o, none⟩ (.int .u64 (a + p))).setCell ⟨g, o + 1, none⟩ (.int .u32 (m - p))).setCell ⟨g, o + 2, none⟩ (.bool t)).alloc (.cells #[.int .u64 a, .int .u32 m, .bool t] 73)).drew).heap.size = wr.heap.size + 1 ∧
    (((((wr.setCell ⟨g, o, none⟩ (.int .u64 (a + p))).setCell ⟨g, o + 1, none⟩ (.int .u32 (m - p))).setCell ⟨g, o + 2, none⟩ (.bool t)).alloc (.cells #[.int .u64 a, .int .u32 m, .bool t] 73)).drew).cell? ⟨wr.heap.size, 0, none⟩ = some (.int .u64 a) ∧
    (((((wr.setCell ⟨g, o, none⟩ (.int .u64 (a + p))).setCell ⟨g, o + 1, none⟩ (.int .u32 (m - p))).setCell ⟨g, o + 2, none⟩ (.bool t)).alloc (.cells #[.int .u64 a, .int .u32 m, .bool t] 73)).drew).cell? ⟨wr.heap.size, 2, none⟩ = some (.bool t) := by
  have hg6 : wr.grownBy (((((wr.setCell ⟨g, o, none⟩ (.int .u64 (a + p))).setCell ⟨g, o + 1, none⟩ (.int .u32 (m - p))).setCell ⟨g, o + 2, none⟩ (.bool t)).alloc (.cells #[.int .u64 a, .int .u32 m, .bool t] 73)).drew) (some g) :=
    have g0 : wr.grownBy wr (some g) := ⟨rfl, rfl, rfl, Nat.le_refl _, fun _ _ _ => rfl⟩
    have g1 := only_setCell g0 (p := ⟨g, o, none⟩) (.inl rfl) (.int .u64 (a + p))
    have g2 := only_setCell g1 (p := ⟨g, o + 1, none⟩) (.inl rfl) (.int .u32 (m - p))
    have g3 := only_setCell g2 (p := ⟨g, o + 2, none⟩) (.inl rfl) (.bool t)
    only_drew (only_alloc g3 _)
  have hr := World.rowIs_alloc (((wr.setCell ⟨g, o, none⟩ (.int .u64 (a + p))).setCell ⟨g, o + 1, none⟩ (.int .u32 (m - p))).setCell ⟨g, o + 2, none⟩ (.bool t)) #[.int .u64 a, .int .u32 m, .bool t] 73 (fun i => if i = 0 then .int .u64 a else if i = 1 then .int .u32 m else .bool t) (fun i hi => by
    match i, hi with
    | 0, _ => rfl
    | 1, _ => rfl
    | 2, _ => rfl)
  simp only [World.size_setCell] at hr
  refine ⟨((hq.cutHead ⟨a + p, m - p, t⟩).alloc (by simp only [World.size_setCell]; omega) _).drew, ho.kept hg6 (.inr (fun e => by have := own_block ho g e; omega)), hb.grown hg6 (by omega) (fun k e => by cases e; exact hBg), by simp, hr.cell (i := 0) (by simp), hr.cell (i := 2) (by simp)⟩

set_option maxRecDepth 100000 in
set_option maxHeartbeats 2000000 in
theorem take_any (B b : Nat) (A : Option Addr) (c : Nat) (l : List S3) (n : Int) (w : World) (hq : QAt w B w.heap.size b A c l) (hv : ∀ x ∈ l, x.Val) (n0 : 0 ≤ n) (n1 : n ≤ 18446744073709551615) (hl : l.length ≤ 64) (hB : B ≤ w.heap.size) :
    Calls Try.prog 50 #[.pointer (some ⟨b, 0, none⟩), .int .u64 n] w (TakeP B b (takeL n l) (dropL n l) w) := by
  unfold TakeP
  obtain ⟨TK, hT⟩ : ∃ T, takeL n l = T := ⟨_, rfl⟩
  obtain ⟨DR, hD⟩ : ∃ D, dropL n l = D := ⟨_, rfl⟩
  rw [hT, hD]
  obtain ⟨i0, hi, hz0, hz1, hz2⟩ := sginfo
  have HI0 := Lib.hid hi
  have HI1 := Lib.hid hz0
  have HI2 := Lib.hid hz1
  have HI3 := Lib.hid hz2
  obtain ⟨E, hE⟩ : ∃ E, w.heap.size = E := ⟨_, rfl⟩
  rw [hE] at hq hB ⊢
  have HQ := Lib.hid hq
  have HV := Lib.hid hv
  have HT := Lib.hid hT
  have HD := Lib.hid hD
  clear hi hz0 hz1 hz2 hq hv hT hD
  go_enter Try.func50, Try.ntmps50
  go_wp2_with fail
  go_loopw [1, 5] (fun m t wr => ∃ (p : Int) (tk rest : List S3) (A5 A' : Option Addr) (c5 c' : Nat), m = .int .u64 p ∧ t = .slice A5 tk.length c5 ∧ 0 ≤ p ∧ p ≤ 18446744073709551615 ∧ wr.ownsRow E 73 3 (.slice A5 tk.length c5) tk.length (row tk) ∧ QAt wr B E b A' c' rest ∧ tk ++ takeL p rest = TK ∧ dropL p rest = DR ∧ (∀ x ∈ rest, x.Val) ∧ tk.length + rest.length ≤ 64 ∧ Below B w wr ∧ E ≤ wr.heap.size) (fun m t wr => (intOf m).toNat)
  case atStart => exact ⟨n, [], l, none, A, 0, c, rfl, rfl, n0, n1, ⟨rfl, .inl ⟨rfl, rfl⟩⟩, HQ.out, HT.out, HD.out, HV.out, by simpa using hl, Below.refl _ _, by omega⟩
  case round =>
    obtain ⟨p, tk, rest, A5, A', c5, c', rfl, rfl, p0, p1, hown, hq, htk, hdr, hv, hlen, hb, hEs⟩ := hrel
    obtain ⟨TN, hTN⟩ : ∃ TN, tk.length = TN := ⟨_, rfl⟩
    have q0 := hq.self
    have q1 := hq.fz
    have qlt := hq.lt
    by_cases hp : p = 0
    · subst hp
      rw [takeL_zero, List.append_nil] at htk
      rw [dropL_zero] at hdr
      subst htk hdr
      have f1 : decide ((0 : Int) < 0) = false := by decide
      clear hv
      have H := Lib.hid (And.intro hown hq)
      clear hown hq q0 q1
      go_wp2_with fail
      go_ret
      exact ⟨A', A5, c', c5, rfl, H.out.1, H.out.2, hb, hEs⟩
    · have f1 : decide (0 < p) = true := decide_eq_true (by omega)
      cases rest with
      | nil =>
        have e1 : takeL p [] = [] := rfl
        have e2 : dropL p [] = [] := rfl
        rw [e1, List.append_nil] at htk
        rw [e2] at hdr
        subst htk hdr
        have q0' : wr.cell? ⟨b, 0, none⟩ = some (.slice A' 0 c') := q0
        have H := Lib.hid (And.intro hown hq)
        clear hown hq hv q0
        go_wp2_with fail
        go_ret
        exact ⟨A', A5, c', c5, rfl, H.out.1, H.out.2, hb, hEs⟩
      | cons x rest =>
        obtain ⟨g, o, rfl, hBg, hgE, hgb, hcells⟩ := hq.row (by simp)
        obtain ⟨c0, z0⟩ := hcells 0 (by simp)
        obtain ⟨c1, z1⟩ := hcells 1 (by simp; omega)
        obtain ⟨c2, z2⟩ := hcells 2 (by simp; omega)
        obtain ⟨v0, v1, v2, v3⟩ := hv x (by simp)
        have hq0 := Lib.hid hq
        have hv' : ∀ y ∈ rest, y.Val := fun y hy => hv y (by simp [hy])
        obtain ⟨a, m, t⟩ := x
        have c0' : wr.cell? ⟨g, o, none⟩ = some (.int .u64 a) := c0
        have c1' : wr.cell? ⟨g, o + 1, none⟩ = some (.int .u32 m) := c1
        have c2' : wr.cell? ⟨g, o + 2, none⟩ = some (.bool t) := c2
        have z0' : wr.frozen? ⟨g, o, none⟩ = false := z0
        simp only at v0 v1 v2 v3
        rw [takeL_cons] at htk
        rw [dropL_cons] at hdr
        have q0' : wr.cell? ⟨b, 0, none⟩ = some (.slice (some ⟨g, o, none⟩) (rest.length + 1) c') := q0
        obtain ⟨RN, hRN⟩ : ∃ RN, rest.length = RN := ⟨_, rfl⟩
        rw [hRN] at q0'
        have hlen' : tk.length + RN + 1 ≤ 64 := by rw [← hRN]; simp at hlen; omega
        have hcap : RN + 1 ≤ c' := by have := hq.cap; simp at this; omega
        have HC := Lib.hid hcells
        have HV' := Lib.hid hv'
        have HTK := Lib.hid htk
        have HDR := Lib.hid hdr
        have hgs : g < wr.heap.size := by omega
        have hbs : b < wr.heap.size := by omega
        rw [hTN] at hown hlen' ⊢
        have HLEN := Lib.hid hTN
        have HO := Lib.hid hown
        have HP := Lib.hid (show 0 < p from by omega)
        clear hown hq hv hv' htk hdr hcells q0 c0 c1 c2 z0 hlen hTN hp
        by_cases hpm : p < m
        · have f2 : decide (p < m) = true := decide_eq_true hpm
          go_wp2_with fail
          go_region
          have F := after_cut p HO.out hq0.out hEs hBg hgE hb hB
          generalize ((((wr.setCell ⟨g, o, none⟩ (.int .u64 (a + p))).setCell ⟨g, o + 1, none⟩ (.int .u32 (m - p))).setCell ⟨g, o + 2, none⟩ (.bool t)).alloc (.cells #[.int .u64 a, .int .u32 m, .bool t] 73)).drew = W6 at F ⊢
          obtain ⟨hq6, ho6, hb6, s6, y0, y2⟩ := F
          have hs6 : wr.heap.size < W6.heap.size := by omega
          have hE6 : E ≤ W6.heap.size := by omega
          clear s6
          have e1 : tk ++ [⟨a, p, t⟩] = TK := by have := HTK.out; rwa [if_neg (by have := HP.out; omega), if_pos hpm] at this
          have e2 : ⟨a + p, m - p, t⟩ :: rest = DR := by have := HDR.out; rwa [if_neg (by have := HP.out; omega), if_pos hpm] at this
          rw [e2] at hq6
          have HQ6 := Lib.hid (hq6.alloc (by omega) (.cells #[.int .u64 a, .int .u32 p, .bool t] 73))
          have HO6 := Lib.hid (ho6.alloc (.cells #[.int .u64 a, .int .u32 p, .bool t] 73))
          have HN6 := Lib.hid (single_cells (W := W6) ⟨a, p, t⟩)
          have HE1 := Lib.hid e1
          have hb7 : Below B w (W6.alloc (.cells #[.int .u64 a, .int .u32 p, .bool t] 73)) := hb6.alloc (by omega) _
          clear e1 e2 hq6 ho6 c0' c1' c2' q0' q1 z0' z1 z2
          go_wp2_with (at_builtin; refine wpList_append_own _ rfl _ _ 23 rfl E 73 i0 (.agg #[.int .u64 0, .int .u32 0, .bool false]) 3 16 Try.underlying23 HI0.out HI1.out HI2.out HI3.out rfl (by decide) (.slice A5 TN c5) TN (row tk) rfl HO6.out ⟨W6.heap.size, 0, none⟩ 1 1 (row [⟨a, p, t⟩]) rfl rfl HN6.out (row_one _) (by unfold maxLen; omega) (by omega) (by simp; omega) ?_)
          intro v7 W7 hown7 g7 _
          obtain ⟨A7, c7, rfl⟩ := own_slice hown7
          have hq7 := HQ6.out.grown (by simp; omega) g7 (fun k e => own_block HO6.out k e)
          have hb8 : Below B w W7 := hb7.grown g7 (by simp; omega) (fun k e => by have := own_block HO6.out k e; omega)
          have hs7 : W6.heap.size + 1 ≤ W7.heap.size := by have := g7.size; rwa [World.size_alloc] at this
          have htl : TK.length = TN + 1 := by rw [← HE1.out, List.length_append, HLEN.out]; rfl
          have hrow : row tk ++ row [⟨a, p, t⟩] = row TK := by rw [← row_append, HE1.out]
          rw [hrow] at hown7
          have H7 := Lib.hid (And.intro hown7 (And.intro hq7 htl))
          clear hown7 hq7 htl g7 hrow
          go_wp2_with fail
          go_ret
          obtain ⟨r1, r2, r3⟩ := H7.out
          refine ⟨_, A7, _, c7, ?_, ?_, r2, hb8, by omega⟩
          · rw [r3]; rfl
          · rw [r3]; exact r1
        · have f2 : decide (p < m) = false := decide_eq_false hpm
          have e1 : tk ++ ⟨a, m, t⟩ :: takeL (p - m) rest = TK := by have := HTK.out; rwa [if_neg (by have := HP.out; omega), if_neg hpm] at this
          have e2 : dropL (p - m) rest = DR := by have := HDR.out; rwa [if_neg (by have := HP.out; omega), if_neg hpm] at this
          have HE1 := Lib.hid e1
          have HE2 := Lib.hid e2
          have HO2 := Lib.hid ((HO.out.alloc (.cells #[.int .u64 a, .int .u32 m, .bool t] 73)).alloc (.cells #[.int .u64 a, .int .u32 m, .bool t] 73))
          have HN2 := Lib.hid (show ∀ j v, (row [⟨a, m, t⟩])[j]? = some v → ((wr.alloc (.cells #[.int .u64 a, .int .u32 m, .bool t] 73)).alloc (.cells #[.int .u64 a, .int .u32 m, .bool t] 73)).cell? ((⟨wr.heap.size + 1, 0, none⟩ : Addr).add j) = some v from by
            have := single_cells (W := wr.alloc (.cells #[.int .u64 a, .int .u32 m, .bool t] 73)) ⟨a, m, t⟩
            rwa [World.size_alloc] at this)
          have HQ2 := Lib.hid ((hq0.out.alloc (by omega) (.cells #[.int .u64 a, .int .u32 m, .bool t] 73)).alloc (by rw [World.size_alloc]; omega) (.cells #[.int .u64 a, .int .u32 m, .bool t] 73))
          have hb2 : Below B w ((wr.alloc (.cells #[.int .u64 a, .int .u32 m, .bool t] 73)).alloc (.cells #[.int .u64 a, .int .u32 m, .bool t] 73)) := (hb.alloc (by omega) _).alloc (by simp; omega) _
          have HR2 := Lib.hid ((World.rowIs_alloc wr #[.int .u64 a, .int .u32 m, .bool t] 73 (fun i => if i = 0 then .int .u64 a else if i = 1 then .int .u32 m else .bool t) (fun i hi => by
            match i, hi with
            | 0, _ => rfl
            | 1, _ => rfl
            | 2, _ => rfl)).alloc (.cells #[.int .u64 a, .int .u32 m, .bool t] 73))
          clear e1 e2
          go_wp2_with (at_builtin; refine wpList_append_own _ rfl _ _ 23 rfl E 73 i0 (.agg #[.int .u64 0, .int .u32 0, .bool false]) 3 16 Try.underlying23 HI0.out HI1.out HI2.out HI3.out rfl (by decide) (.slice A5 TN c5) TN (row tk) rfl HO2.out ⟨wr.heap.size + 1, 0, none⟩ 1 1 (row [⟨a, m, t⟩]) rfl rfl HN2.out (row_one _) (by unfold maxLen; omega) (by omega) (by simp; omega) ?_)
          intro v3 W3 hown3 g3 _
          obtain ⟨A3, c3, rfl⟩ := own_slice hown3
          have hq3 := HQ2.out.grown (by simp; omega) g3 (fun k e => own_block HO2.out k e)
          have hb3 : Below B w W3 := hb2.grown g3 (by simp; omega) (fun k e => by have := own_block HO2.out k e; omega)
          have s3 := g3.size
          rw [World.size_alloc, World.size_alloc] at s3
          have q3 : W3.cell? ⟨b, 0, none⟩ = some (.slice (some ⟨g, o, none⟩) (RN + 1) c') := hRN ▸ hq3.self
          have z3 := hq3.fz
          have y1 : W3.cell? ⟨wr.heap.size, 1, none⟩ = some (.int .u32 m) := by
            refine (World.cell?_of_block (a := ⟨wr.heap.size, 1, none⟩) (g3.block wr.heap.size (by simp; omega) (fun e => ?_))).trans (HR2.out.cell (i := 1) (by simp))
            have := (HO.out.lt _ e.symm).2
            omega
          have H3 := Lib.hid (And.intro hown3 hq3)
          clear hown3 hq3 g3 c0' c1' c2' q0' q1 z0' z1 z2
          have hm1 : 0 ≤ p - m := by omega
          go_wp2_with fail
          go_roundw
          case rel =>
            obtain ⟨k1, k2⟩ := H3.out
            rw [← row_append] at k1
            have hl2 : (tk ++ [(⟨a, m, t⟩ : S3)]).length = TN + 1 := by rw [List.length_append, HLEN.out]; rfl
            refine ⟨p - m, tk ++ [(⟨a, m, t⟩ : S3)], rest, A3, _, c3, c' - 1, rfl, by rw [hl2], hm1, by omega, ?_, hRN ▸ k2.tail, by rw [List.append_assoc]; exact HE1.out, HE2.out, HV'.out, by rw [hl2, hRN]; omega, hb3.setCell (by have := hq0.out.ge; exact this) _, by simp only [World.size_setCell]; omega⟩
            rw [hl2]
            exact k1.kept (only_setCell (g := b) (grown0 W3 _) (.inl rfl) _) (.inr fun e => by have := own_block k1 _ e; omega)
          case measure => simp [intOf]; omega

end Go.Proofs.Ytkejcdephnkkgaa.SgTake
