/- The law SegCuts: parts have as many bytes as asked, cutting twice is cutting once, both halves are the whole. For every input; no condition. -/
import Derived.Test.YtohopmccggggbaaSgArgs
import Derived.Deep.DeepCutAuto
import Derived.Test.YtohopmccggggbaaAppendOpt
namespace Go.Proofs.Ytohopmccggggbaa.SegCuts
open Go.ChangeShapes Go.WideShapes Go.ChangeAt Go.RowKit Rw Sg SgCheck SgClone SgTotal SgCut SgMath SgArgs
set_option linter.unusedVariables false
set_option linter.unusedSimpArgs false

theorem lst_some {w : World} {B : Nat} {A : Option Addr} {l : List S3} (h : Lst w B A l) : ∀ ad, A = some ad → ∀ j u, (row l)[j]? = some u → w.cell? (ad.add j) = some u := fun ad e => lst_cells (e ▸ h)

theorem own_below {w w' : World} {base : Nat} {e : TypeId} {size n c : Nat} {A : Option Addr} {xs : List Value} (h : w.ownsRow base e size (.slice A n c) n xs) (hb : Below w.heap.size w w') : w'.ownsRow base e size (.slice A n c) n xs := by
  refine h.kept (only_of_below hb none) ?_
  cases ho : (Value.slice A n c).ownBlock with
  | none => exact .inl rfl
  | some g => exact .inr (by simp)

set_option maxRecDepth 100000 in
set_option maxHeartbeats 4000000 in
theorem walk_many (A : Option Addr) (c : Nat) (l : List S3) (f n m : Int) (w : World) (h : 100 < l.length) (h2 : l.length ≤ 9223372036854775807) : Calls Try.prog 12 #[.slice A l.length c, .int .u64 f, .int .u64 n, .int .u64 m] w (Lib.True1 w.heap.size w) := by
  unfold Lib.True1
  have hb0 : Below w.heap.size w w := Below.refl _ _
  have h1 : decide ((100 : Int) < (l.length : Int)) = true := decide_eq_true (by omega)
  clear h
  go_enter Try.func12, Try.ntmps12
  go_wp2_with fail
  refine (SgLives.lives_any _).mono ?_
  rintro eE W1 ⟨rfl, hg1⟩
  have hb1 : Below w.heap.size w W1 := (show Below w.heap.size w _ by go_grown).trans (hg1.mono (by first | omega | go_size))
  obtain ⟨hc1, hf1⟩ := bcell hg1
  have hs1 := hg1.size
  try simp only [World.size_alloc, World.size_setCell, World.size_drew] at hs1
  clear hg1 hc1 hf1
  go_wp2_with fail
  go_ret
  exact ⟨rfl, by go_grown⟩

set_option maxRecDepth 100000 in
set_option maxHeartbeats 4000000 in
theorem walk_bad (A : Option Addr) (c : Nat) (l : List S3) (f n m : Int) (w : World) (h : l.length ≤ 100) (hraw : ∀ x ∈ l, x.Raw) (hl : Lst w w.heap.size A l) (hk : checkL l ≠ 0) : Calls Try.prog 12 #[.slice A l.length c, .int .u64 f, .int .u64 n, .int .u64 m] w (Lib.True1 w.heap.size w) := by
  unfold Lib.True1
  have hb0 : Below w.heap.size w w := Below.refl _ _
  have h1 : decide ((100 : Int) < (l.length : Int)) = false := decide_eq_false (by omega)
  have h2 : (checkL l == 0) = false := by simp [hk]
  have HL := Lib.hid hl
  have HW := Lib.hid hraw
  clear hl hraw hk
  go_enter Try.func12, Try.ntmps12
  go_wp2_with fail
  refine (SgLives.lives_any _).mono ?_
  rintro eE W1 ⟨rfl, hg1⟩
  have hb1 : Below w.heap.size w W1 := (show Below w.heap.size w _ by go_grown).trans (hg1.mono (by first | omega | go_size))
  obtain ⟨hc1, hf1⟩ := bcell hg1
  have hs1 := hg1.size
  try simp only [World.size_alloc, World.size_setCell, World.size_drew] at hs1
  clear hg1 hc1 hf1
  go_wp2_with fail
  refine (check_any A c l _ (by omega) HW.out ((HL.out.below hb1).more hs1)).mono ?_
  rintro eE W2 ⟨rfl, hg2⟩
  have hb2 : Below w.heap.size w W2 := (show Below w.heap.size w _ by go_grown).trans (hg2.mono (by first | omega | go_size))
  obtain ⟨hc2, hf2⟩ := bcell hg2
  have hs2 := hg2.size
  try simp only [World.size_alloc, World.size_setCell, World.size_drew] at hs2
  clear hg2 hc2 hf2
  go_wp2_with fail
  go_ret
  exact ⟨rfl, by go_grown⟩

set_option maxRecDepth 100000 in
set_option maxHeartbeats 8000000 in
theorem walk_ok (A : Option Addr) (c : Nat) (l : List S3) (f0 n0 m0 f n m : Int) (w : World) (hl : Lst w w.heap.size A l) (hb : Buf l)
    (hf : f0.tmod 8589934592 = f) (hn : n0.tmod 8589934592 = n) (hm : m0.tmod 8589934592 = m) (f1 : 0 ≤ f ∧ f ≤ 8589934591) (n1 : 0 ≤ n ∧ n ≤ 8589934591) (m1 : 0 ≤ m ∧ m ≤ 8589934591) :
    Calls Try.prog 12 #[.slice A l.length c, .int .u64 f0, .int .u64 n0, .int .u64 m0] w (Lib.True1 w.heap.size w) := by
  unfold Lib.True1
  have hb0 : Below w.heap.size w w := Below.refl _ _
  obtain ⟨i0, hi, hz0, hz1, hz2⟩ := sginfo
  have HI0 := Lib.hid hi
  have HI1 := Lib.hid hz0
  have HI2 := Lib.hid hz1
  have HI3 := Lib.hid hz2
  have h1 : decide ((100 : Int) < (l.length : Int)) = false := decide_eq_false (by have := hb.len; omega)
  have hlen : l.length ≤ 64 := hb.len
  obtain ⟨S, hS⟩ : ∃ S, sm l = S := ⟨_, rfl⟩
  obtain ⟨R, hR⟩ : ∃ R, rd l = R := ⟨_, rfl⟩
  obtain ⟨V, hV⟩ : ∃ V, wr l = V := ⟨_, rfl⟩
  have HS := Lib.hid hS
  have HR := Lib.hid hR
  have HV := Lib.hid hV
  have rv : R + V = S := by rw [← hR, ← hV, ← hS]; exact hb.rd_wr
  have r0 : 0 ≤ R := hR ▸ hb.rd0
  have v0 : 0 ≤ V := hV ▸ hb.wr0
  have s1 : S ≤ 4294967295 := hS ▸ hb.sum
  have s0 : 0 ≤ S := by omega
  -- what is cut
  obtain ⟨C, hC⟩ : ∃ C, cutL l f n = C := ⟨_, rfl⟩
  have bC : Buf C := hC ▸ hb.cut f n ▸ (hb.drop f f1.1).take n n1.1
  obtain ⟨x, hx⟩ : ∃ x, rd C = x := ⟨_, rfl⟩
  obtain ⟨y, hy⟩ : ∃ y, wr C = y := ⟨_, rfl⟩
  have x0 : 0 ≤ x := hx ▸ bC.rd0
  have y0 : 0 ≤ y := hy ▸ bC.wr0
  have xy : x + y = if f < S then (if n ≤ S - f then n else S - f) else 0 := by rw [← hx, ← hy, ← hC, ← hS]; exact cuts_sum hb f n f1.1 n1.1
  obtain ⟨D, hD⟩ : ∃ D, cutL l 0 f = D := ⟨_, rfl⟩
  have bD : Buf D := hD ▸ hb.cut0 f ▸ hb.take f f1.1
  obtain ⟨G, hG⟩ : ∃ G, cutL l f S = G := ⟨_, rfl⟩
  have bG : Buf G := hG ▸ hb.cut f S ▸ (hb.drop f f1.1).take S s0
  obtain ⟨p, hp⟩ : ∃ p, rd D = p := ⟨_, rfl⟩
  obtain ⟨q, hq⟩ : ∃ q, wr D = q := ⟨_, rfl⟩
  obtain ⟨s, hs⟩ : ∃ s, rd G = s := ⟨_, rfl⟩
  obtain ⟨t, ht⟩ : ∃ t, wr G = t := ⟨_, rfl⟩
  have p0 : 0 ≤ p := hp ▸ bD.rd0
  have q0 : 0 ≤ q := hq ▸ bD.wr0
  have t0 : 0 ≤ s := hs ▸ bG.rd0
  have u0 : 0 ≤ t := ht ▸ bG.wr0
  have hh := cuts_half hb f f1.1
  rw [hS, hD, hG, hp, hq, hs, ht, hR, hV] at hh
  obtain ⟨ps, qt⟩ := hh
  obtain ⟨K, hK⟩ : ∃ K, cutL C m n = K := ⟨_, rfl⟩
  have bK : Buf K := hK ▸ bC.cut m n ▸ (bC.drop m m1.1).take n n1.1
  have hK2 : cutL l (f + m) (n - (if m ≤ n then m else n)) = K := by rw [← hK, ← hC]; exact (cuts_twice hb f n m f1.1 n1.1 m1.1).symm
  obtain ⟨P, hP⟩ : ∃ P, partL l false = P := ⟨_, rfl⟩
  obtain ⟨Q, hQ⟩ : ∃ Q, partL l true = Q := ⟨_, rfl⟩
  have hPQ : P ++ Q = l := by rw [← hP, ← hQ]; exact hb.parts
  have hlP : P.length + Q.length = l.length := by rw [← List.length_append, hPQ]
  have hA : cutL l 0 S = l := hS ▸ hb.all
  have HKM := Lib.hid (show m ≤ n → cutL l (f + m) (n - m) = K from fun hh => by rw [if_pos hh] at hK2; exact hK2)
  have HKN := Lib.hid (show n < m → cutL l (f + m) 0 = K from fun hh => by rw [if_neg (by omega), Int.sub_self] at hK2; exact hK2)
  have HB := Lib.hid (And.intro hb (And.intro bC (And.intro bD (And.intro bG bK))))
  have HE := Lib.hid (And.intro hC (And.intro hD (And.intro hG (And.intro hK (And.intro hK2 (And.intro hP (And.intro hQ (And.intro hPQ hA))))))))
  have HT := Lib.hid (And.intro hx (And.intro hy (And.intro hp (And.intro hq (And.intro hs ht)))))
  have hL := Lib.hid hl
  have HXY := Lib.hid xy
  have hz : l.length ≤ 1000000 := by omega
  have lC : C.length ≤ 64 := bC.len
  have lD : D.length ≤ 64 := bD.len
  have lG : G.length ≤ 64 := bG.len
  have lK : K.length ≤ 64 := bK.len
  have lP : P.length ≤ 64 := by omega
  have lQ : Q.length ≤ 64 := by omega
  have e1 : IntKind.u64.wrap (R + V) = S := by rw [rv, IntKind.wrap_u64]; omega
  obtain ⟨u, hu⟩ : ∃ u, x + y = u := ⟨_, rfl⟩
  have u1 : 0 ≤ u ∧ u ≤ 4294967295 := by
    rw [← hu, xy]
    split
    · split <;> omega
    · omega
  have HU := Lib.hid hu
  rw [hu] at xy
  have e2 : IntKind.u64.wrap (x + y) = u := by rw [hu, IntKind.wrap_u64]; omega
  have e3 : IntKind.u64.wrap (p + s) = R := by rw [ps, IntKind.wrap_u64]; omega
  obtain ⟨g1, hg1⟩ : ∃ g1, p + q = g1 := ⟨_, rfl⟩
  obtain ⟨g2, hg2⟩ : ∃ g2, g1 + s = g2 := ⟨_, rfl⟩
  have e4 : IntKind.u64.wrap (p + q) = g1 := by rw [hg1, IntKind.wrap_u64]; omega
  have e5 : IntKind.u64.wrap (g1 + s) = g2 := by rw [hg2, IntKind.wrap_u64]; omega
  have e6 : IntKind.u64.wrap (g2 + t) = S := by rw [show g2 + t = S from by omega, IntKind.wrap_u64]; omega
  have e7 : IntKind.u64.wrap (f + m) = f + m := by rw [IntKind.wrap_u64]; omega
  obtain ⟨f10, f11⟩ := f1
  obtain ⟨n10, n11⟩ := n1
  obtain ⟨m10, m11⟩ := m1
  obtain ⟨u10, u11⟩ := u1
  have HQT := Lib.hid (And.intro rv (And.intro ps (And.intro qt (And.intro hg1 hg2))))
  have HLP := Lib.hid hlP
  clear hl hb hS hR hV hC bC hx hy xy hD bD hG bG hp hq hs ht ps qt hK bK hK2 hP hQ hPQ hA hi hz0 hz1 hz2 hu rv hg1 hg2 hlP
  go_enter Try.func12, Try.ntmps12
  go_wp2_with fail
  refine (SgLives.lives_any _).mono ?_
  rintro eE W1 ⟨rfl, hg1⟩
  have hb1 : Below w.heap.size w W1 := (show Below w.heap.size w _ by go_grown).trans (hg1.mono (by first | omega | go_size))
  obtain ⟨hc1, hf1⟩ := bcell hg1
  have hs1 := hg1.size
  try simp only [World.size_alloc, World.size_setCell, World.size_drew] at hs1
  clear hg1 hc1 hf1
  go_wp2_with fail
  have L1 := Lib.hid (show Lst W1 W1.heap.size A l from IsRow.more (IsRow.below hL.out hb1) hs1)
  (with_reducible refine (check_is hz HB.out.1.raw L1.out HB.out.1.check).mono ?_)
  rintro e W2 ⟨rfl, hg2⟩
  have L2 := Lib.hid (Lst.on L1.out (Nat.le_refl _) hg2)
  have hb2 : Below w.heap.size w W2 := (show Below w.heap.size w _ by go_grown).trans (hg2.mono (by first | omega | go_size))
  obtain ⟨hc2, hf2⟩ := bcell hg2
  have hs2 := hg2.size
  try simp only [World.size_alloc, World.size_setCell, World.size_drew] at hs2
  clear hg2 hc2 hf2
  go_wp2_with fail
  (with_reducible refine (total_is hz HB.out.1.raw L2.out HR.out HV.out).mono ?_)
  rintro e W3 ⟨rfl, hg3⟩
  have L3 := Lib.hid (Lst.on L2.out (Nat.le_refl _) hg3)
  have hb3 : Below w.heap.size w W3 := (show Below w.heap.size w _ by go_grown).trans (hg3.mono (by first | omega | go_size))
  obtain ⟨hc3, hf3⟩ := bcell hg3
  have hs3 := hg3.size
  try simp only [World.size_alloc, World.size_setCell, World.size_drew] at hs3
  clear hg3 hc3 hf3
  go_wp2_with fail
  (with_reducible refine (cut_is hz HB.out.1.raw L3.out ⟨f10, by omega⟩ ⟨n10, by omega⟩ HE.out.1).mono ?_)
  rintro e W4 ⟨A4, c4, rfl, h4, hc4, hg4⟩
  have L4 := Lib.hid (Lst.on L3.out (Nat.le_refl _) hg4)
  have C4 := Lib.hid h4
  clear h4
  have hb4 : Below w.heap.size w W4 := (show Below w.heap.size w _ by go_grown).trans (hg4.mono (by first | omega | go_size))
  obtain ⟨hc4, hf4⟩ := bcell hg4
  have hs4 := hg4.size
  try simp only [World.size_alloc, World.size_setCell, World.size_drew] at hs4
  clear hg4 hc4 hf4
  go_wp2_with fail
  (with_reducible refine (total_is (by omega) HB.out.2.1.raw C4.out HT.out.1 HT.out.2.1).mono ?_)
  rintro e W5 ⟨rfl, hg5⟩
  have L5 := Lib.hid (Lst.on L4.out (Nat.le_refl _) hg5)
  have C5 := Lib.hid (Lst.on C4.out (Nat.le_refl _) hg5)
  have hb5 : Below w.heap.size w W5 := hb4.trans (hg5.mono (by omega))
  have hs5 := hg5.size
  clear hg5
  go_upto_if 57 with fail
  go_cut [15] (fun s wx => s = .int .u64 u ∧ W5 = wx)
  case first =>
    have xy := HXY.out
    rw [HU.out] at xy
    by_cases hfs : f < S
    · have g1 : decide (f < S) = true := decide_eq_true hfs
      rw [if_pos hfs] at xy
      by_cases hns : n ≤ S - f
      · rw [if_pos hns] at xy
        subst xy
        go_wp2_with fail
        go_meet
        exact ⟨rfl, rfl⟩
      · rw [if_neg hns] at xy
        subst xy
        go_wp2_with fail
        go_meet
        exact ⟨rfl, rfl⟩
    · have g1 : decide (f < S) = false := decide_eq_false hfs
      rw [if_neg hfs] at xy
      subst xy
      go_wp2_with fail
      go_meet
      exact ⟨rfl, rfl⟩
  case rest =>
  obtain ⟨rfl, rfl⟩ := hcut
  go_wp2_with fail
  (with_reducible refine (cut_is hz HB.out.1.raw L5.out ⟨by decide, by decide⟩ ⟨f10, by omega⟩ HE.out.2.1).mono ?_)
  rintro e W6 ⟨A6, c6, rfl, h6, hc6, hg6⟩
  have L6 := Lib.hid (Lst.on L5.out (Nat.le_refl _) hg6)
  have C6 := Lib.hid (Lst.on C5.out (Nat.le_refl _) hg6)
  have D6 := Lib.hid h6
  clear h6
  have hb6 : Below w.heap.size w W6 := (show Below w.heap.size w _ by go_grown).trans (hg6.mono (by first | omega | go_size))
  obtain ⟨hc6, hf6⟩ := bcell hg6
  have hs6 := hg6.size
  try simp only [World.size_alloc, World.size_setCell, World.size_drew] at hs6
  clear hg6 hc6 hf6
  go_wp2_with fail
  (with_reducible refine (cut_is hz HB.out.1.raw L6.out ⟨f10, by omega⟩ ⟨s0, by omega⟩ HE.out.2.2.1).mono ?_)
  rintro e W7 ⟨A7, c7, rfl, h7, hc7, hg7⟩
  have L7 := Lib.hid (Lst.on L6.out (Nat.le_refl _) hg7)
  have C7 := Lib.hid (Lst.on C6.out (Nat.le_refl _) hg7)
  have D7 := Lib.hid (Lst.on D6.out (Nat.le_refl _) hg7)
  have G7 := Lib.hid h7
  clear h7
  have hb7 : Below w.heap.size w W7 := (show Below w.heap.size w _ by go_grown).trans (hg7.mono (by first | omega | go_size))
  obtain ⟨hc7, hf7⟩ := bcell hg7
  have hs7 := hg7.size
  try simp only [World.size_alloc, World.size_setCell, World.size_drew] at hs7
  clear hg7 hc7 hf7
  go_wp2_with fail
  (with_reducible refine (total_is (by omega) HB.out.2.2.1.raw D7.out HT.out.2.2.1 HT.out.2.2.2.1).mono ?_)
  rintro e W8 ⟨rfl, hg8⟩
  have L8 := Lib.hid (Lst.on L7.out (Nat.le_refl _) hg8)
  have C8 := Lib.hid (Lst.on C7.out (Nat.le_refl _) hg8)
  have G8 := Lib.hid (Lst.on G7.out (Nat.le_refl _) hg8)
  have hb8 : Below w.heap.size w W8 := (show Below w.heap.size w _ by go_grown).trans (hg8.mono (by first | omega | go_size))
  obtain ⟨hc8, hf8⟩ := bcell hg8
  have hs8 := hg8.size
  try simp only [World.size_alloc, World.size_setCell, World.size_drew] at hs8
  clear hg8 hc8 hf8
  go_wp2_with fail
  (with_reducible refine (total_is (by omega) HB.out.2.2.2.1.raw G8.out HT.out.2.2.2.2.1 HT.out.2.2.2.2.2).mono ?_)
  rintro e W9 ⟨rfl, hg9⟩
  have L9 := Lib.hid (Lst.on L8.out (Nat.le_refl _) hg9)
  have C9 := Lib.hid (Lst.on C8.out (Nat.le_refl _) hg9)
  have hb9 : Below w.heap.size w W9 := (show Below w.heap.size w _ by go_grown).trans (hg9.mono (by first | omega | go_size))
  obtain ⟨hc9, hf9⟩ := bcell hg9
  have hs9 := hg9.size
  try simp only [World.size_alloc, World.size_setCell, World.size_drew] at hs9
  clear hg9 hc9 hf9
  go_wp2_with fail
  (with_reducible refine (check_is (by omega) HB.out.2.1.raw C9.out HB.out.2.1.check).mono ?_)
  rintro e W10 ⟨rfl, hg10⟩
  have L10 := Lib.hid (Lst.on L9.out (Nat.le_refl _) hg10)
  have C10 := Lib.hid (Lst.on C9.out (Nat.le_refl _) hg10)
  have hb10 : Below w.heap.size w W10 := (show Below w.heap.size w _ by go_grown).trans (hg10.mono (by first | omega | go_size))
  obtain ⟨hc10, hf10⟩ := bcell hg10
  have hs10 := hg10.size
  try simp only [World.size_alloc, World.size_setCell, World.size_drew] at hs10
  clear hg10 hc10 hf10
  go_wp2_with fail
  (with_reducible refine (cut_is (by omega) HB.out.2.1.raw C10.out ⟨m10, by omega⟩ ⟨n10, by omega⟩ HE.out.2.2.2.1).mono ?_)
  rintro e W11 ⟨A11, c11, rfl, h11, hc11, hg11⟩
  have L11 := Lib.hid (Lst.on L10.out (Nat.le_refl _) hg11)
  have K11 := Lib.hid h11
  clear h11
  have hb11 : Below w.heap.size w W11 := (show Below w.heap.size w _ by go_grown).trans (hg11.mono (by first | omega | go_size))
  obtain ⟨hc11, hf11⟩ := bcell hg11
  have hs11 := hg11.size
  try simp only [World.size_alloc, World.size_setCell, World.size_drew] at hs11
  clear hg11 hc11 hf11
  go_wp2_with fail
  all_goals
    (with_reducible refine (cut_is hz HB.out.1.raw L11.out ⟨by omega, by omega⟩ ⟨by omega, by omega⟩ (show _ = K from by first | exact HKM.out (by omega) | exact HKN.out (by omega))).mono ?_)
    rintro e W12 ⟨A12, c12, rfl, h12, hc12, hg12⟩
    have L12 := Lib.hid (Lst.on L11.out (Nat.le_refl _) hg12)
    have K12 := Lib.hid (Lst.on K11.out (Nat.le_refl _) hg12)
    have M12 := Lib.hid h12
    clear h12
    have hb12 : Below w.heap.size w W12 := (show Below w.heap.size w _ by go_grown).trans (hg12.mono (by first | omega | go_size))
    obtain ⟨hc12, hf12⟩ := bcell hg12
    have hs12 := hg12.size
    try simp only [World.size_alloc, World.size_setCell, World.size_drew] at hs12
    clear hg12 hc12 hf12
    go_wp2_with fail
    (with_reducible refine (same_is (by omega) (by omega) K12.out M12.out (sameL_refl K)).mono ?_)
    rintro e W13 ⟨rfl, hg13⟩
    have L13 := Lib.hid (Lst.on L12.out (Nat.le_refl _) hg13)
    have hb13 : Below w.heap.size w W13 := (show Below w.heap.size w _ by go_grown).trans (hg13.mono (by first | omega | go_size))
    obtain ⟨hc13, hf13⟩ := bcell hg13
    have hs13 := hg13.size
    try simp only [World.size_alloc, World.size_setCell, World.size_drew] at hs13
    clear hg13 hc13 hf13
    go_wp2_with fail
    have L13' := Lib.hid (show Lst (W13.alloc (.cells #[] 102)) (W13.alloc (.cells #[] 102)).heap.size A l from (IsRow.alloc L13.out (Nat.le_refl _) _).more (by simp))
    (with_reducible refine (part_is hz HB.out.1.raw L13'.out HE.out.2.2.2.2.2.1).mono ?_)
    rintro e W14 ⟨A14, c14, rfl, h14, hc14, hg14⟩
    have L14 := Lib.hid (Lst.on L13'.out (Nat.le_refl _) hg14)
    have hs14 := hg14.size
    rw [World.size_alloc] at hs14
    have hb14 : Below w.heap.size w W14 := (hb13.alloc (by omega) (.cells #[] 102)).trans (hg14.mono (by simp; omega))
    have hB14 : Below W13.heap.size W13 W14 := ((Below.refl W13.heap.size W13).alloc (Nat.le_refl _) (.cells #[] 102)).trans (hg14.mono (by simp))
    have hown0 := (World.ownsRow_made (e := 102) (size := 3) W13 #[] 0 (Nat.le_refl _) (by unfold maxLen; omega) rfl).kept (only_of_below hg14 none) (.inr (by simp [Value.ownBlock]))
    have HO14 := Lib.hid hown0
    have HP14 := Lib.hid (lst_some h14)
    have HN14 := Lib.hid hc14.2
    clear h14 hc14 hg14 hown0
    go_wp2_with (at_builtin; go_loud (refine wpList_append_opt rfl _ _ 103 rfl W13.heap.size 102 i0 (.agg #[.int .u64 0, .int .u32 0, .bool false]) 3 16 Try.underlying103 HI0.out HI1.out HI2.out HI3.out rfl (by decide) (.slice (some ⟨W13.heap.size, 0, none⟩) 0 0) 0 [] rfl HO14.out A14 P.length c14 (row P) rfl HN14.out (row_length P) HP14.out (row_one P) (by unfold maxLen; omega) (by omega) (by omega) ?_))
    intro v15 W15 hown15 hg15
    have hown15' : W15.ownsRow W13.heap.size 102 3 v15 P.length (row P) := by simpa using hown15
    obtain ⟨A15, c15, rfl⟩ := own_slice hown15'
    have hB15 : Below W13.heap.size W13 W15 := hB14.grown hg15 (by omega) (fun k e => by cases e; exact Nat.le_refl _)
    have L15 := Lib.hid (Lst.on L13.out (Nat.le_refl _) hB15)
    have hb15 : Below w.heap.size w W15 := hb13.trans (hB15.mono (by omega))
    have hs15 := hB15.size
    have HO15 := Lib.hid hown15'
    clear hown15 hown15' hg15
    go_wp2_with fail
    (with_reducible refine (part_is hz HB.out.1.raw L15.out HE.out.2.2.2.2.2.2.1).mono ?_)
    rintro e W16 ⟨A16, c16, rfl, h16, hc16, hg16⟩
    have hB16 : Below W13.heap.size W13 W16 := hB15.trans (hg16.mono (by omega))
    have hb16 : Below w.heap.size w W16 := hb13.trans (hB16.mono (by omega))
    have hs16 := hB16.size
    have HO16 := Lib.hid (own_below HO15.out hg16)
    have HP16 := Lib.hid (lst_some h16)
    have HN16 := Lib.hid hc16.2
    clear h16 hc16 hg16
    go_wp2_with (at_builtin; refine wpList_append_opt rfl _ _ 103 rfl W13.heap.size 102 i0 (.agg #[.int .u64 0, .int .u32 0, .bool false]) 3 16 Try.underlying103 HI0.out HI1.out HI2.out HI3.out rfl (by decide) (.slice A15 P.length c15) P.length (row P) rfl HO16.out A16 Q.length c16 (row Q) rfl HN16.out (row_length Q) HP16.out (row_one Q) (by unfold maxLen; omega) (by omega) (by omega) ?_)
    intro v17 W17 hown17 hg17
    have hB17 : Below W13.heap.size W13 W17 := hB16.grown hg17 (by omega) (fun k e => own_block HO16.out k e)
    rw [← row_append, HE.out.2.2.2.2.2.2.2.1, HLP.out] at hown17
    obtain ⟨A17, c17, rfl⟩ := own_slice hown17
    have hb17 : Below w.heap.size w W17 := hb13.trans (hB17.mono (by omega))
    have hs17 := hB17.size
    have L17 := Lib.hid (Lst.on L13.out (Nat.le_refl _) hB17)
    have M17 := Lib.hid (own_lst hown17)
    clear hown17 hg17
    go_wp2_with fail
    (with_reducible refine (same_is hz hz M17.out L17.out (sameL_refl l)).mono ?_)
    rintro e W18 ⟨rfl, hg18⟩
    have L18 := Lib.hid (Lst.on L17.out (Nat.le_refl _) hg18)
    have hb18 : Below w.heap.size w W18 := hb17.trans (hg18.mono (by omega))
    have hs18 := hg18.size
    clear hg18
    go_wp2_with fail
    (with_reducible refine (cut_is hz HB.out.1.raw L18.out ⟨by decide, by decide⟩ ⟨s0, by omega⟩ HE.out.2.2.2.2.2.2.2.2).mono ?_)
    rintro e W19 ⟨A19, c19, rfl, h19, hc19, hg19⟩
    have L19 := Lib.hid (Lst.on L18.out (Nat.le_refl _) hg19)
    have M19 := Lib.hid h19
    have hb19 : Below w.heap.size w W19 := hb18.trans (hg19.mono (by omega))
    have hs19 := hg19.size
    clear h19 hc19 hg19
    go_wp2_with fail
    (with_reducible refine (same_is hz hz M19.out L19.out (sameL_refl l)).mono ?_)
    rintro e W20 ⟨rfl, hg20⟩
    have hb20 : Below w.heap.size w W20 := hb19.trans (hg20.mono (by omega))
    clear hg20
    go_wp2_with fail
    go_ret
    exact ⟨rfl, hb20⟩

theorem wf_mod {a : Int} (h : (Lit.int .u64 a).wf = true) : a.tmod 8589934592 = a % 8589934592 ∧ 0 ≤ a % 8589934592 ∧ a % 8589934592 ≤ 8589934591 := by
  have := bounds_u64 h
  exact ⟨Int.tmod_eq_emod_of_nonneg this.1, by omega, by omega⟩

theorem walk (v : Value) (A : Option Addr) (c : Nat) (l : List S3) (f n m : Int) (w : World) (hs : IsSegs w v A c l) (w1 : (Lit.int .u64 f).wf = true) (w2 : (Lit.int .u64 n).wf = true) (w3 : (Lit.int .u64 m).wf = true) :
    Calls Try.prog 12 #[v, .int .u64 f, .int .u64 n, .int .u64 m] w (Lib.True1 w.heap.size w) := by
  obtain ⟨rfl, h1, h2, h3, h4⟩ := hs
  by_cases hl : 100 < l.length
  · exact walk_many A c l f n m w hl (by unfold maxLen at h2; omega)
  · by_cases hk : checkL l = 0
    · exact walk_ok A c l f n m _ _ _ w h4 (Buf.of h3 hk) (wf_mod w1).1 (wf_mod w2).1 (wf_mod w3).1 (wf_mod w1).2 (wf_mod w2).2 (wf_mod w3).2
    · exact walk_bad A c l f n m w (by omega) h3 h4 hk

set_option maxRecDepth 100000 in
theorem lifted (os : Os) (started : os.Started) (H : Type) (enc : TypeId × Value → H) :
    ReturnsInHanded {} Try.checked os 12 .any (Rows.segCutsSpec.pre6 enc Try.prog Try.f12 Rows.segCutsRow.domain false) (Rows.segCutsSpec.post enc Try.prog Try.f12 false true false false) := by
  refine Lib.lifted (C := Try.checked) (tb := 4) H enc Lib.own started (by kernel_rfl) Try.func12
    (ChangeSpec.witness6 (enc := enc) (C := Try.checked) false ⟨#[], #[.slice none 0 0, .int .u64 0, .int .u64 0, .int .u64 0], []⟩ 8 (by kernel_rfl) (by kernel_rfl) (by kernel_rfl) (by kernel_rfl))
    Lib.laidOut (Lib.readable_of (by kernel_rfl)) rfl Try.underlying4 rfl ?_ ?_
  · intro ds h
    match ds, h with
    | [_, _, _, _], _ => exact ⟨rfl, rfl, rfl⟩
  · intro W base args ds p hval hA hfz hlt
    rw [Try.params12] at hval
    have hA' : DataW.TrodAll enc Try.prog W 0 (fun _ => true) true Try.f12.params.toList args.toList ds p := hA
    rw [Try.params12] at hA'
    obtain ⟨v0, vs0, d0, ds0, p0, q0, hargs, rfl, rfl, h0, r0⟩ := trodAll_cons hA'
    obtain ⟨v1, vs1, d1, ds1, p1, q1, rfl, rfl, rfl, h1, r1⟩ := trodAll_cons r0
    obtain ⟨v2, vs2, d2, ds2, p2, q2, rfl, rfl, rfl, h2, r2⟩ := trodAll_cons r1
    obtain ⟨v3, vs3, d3, ds3, p3, q3, rfl, rfl, rfl, h3, r3⟩ := trodAll_cons r2
    obtain ⟨rfl, rfl, rfl⟩ := trodAll_nil r3
    obtain rfl : args = #[v0, v1, v2, v3] := by cases args; simp_all
    obtain ⟨a0_0, a0_1, a0_2, w0⟩ := SgArgs.open_segs (hval 0 103 v0 rfl rfl) h0
    obtain ⟨a1, rfl, rfl, rfl, w1⟩ := open_int Try.underlying26 (hval 1 26 v1 rfl rfl) h1
    obtain ⟨a2, rfl, rfl, rfl, w2⟩ := open_int Try.underlying26 (hval 2 26 v2 rfl rfl) h2
    obtain ⟨a3, rfl, rfl, rfl, w3⟩ := open_int Try.underlying26 (hval 3 26 v3 rfl rfl) h3
    exact walk v0 a0_0 a0_1 a0_2 a1 a2 a3 W w0 w1 w2 w3

theorem over : Rows.segCutsRow.holds Try.pinned (OpenSpec.ofChange Rows.segCutsSpec) :=
  OpenClaim.holds_of_wide 12 Try.f12 rfl rfl rfl rfl rfl rfl rfl ⟨rfl, rfl, rfl, rfl, rfl⟩ rfl rfl rfl rfl rfl (by kernel_rfl) Try.func12 (by kernel_rfl)
    (of_decide_eq_true (by kernel_rfl)) (by unfold Func.isWrapper; first | (rw [if_pos (by decide +kernel)]; kernel_rfl) | (rw [if_neg (by decide +kernel)]; exact ⟨rfl, rfl⟩))
    (fun os started H enc _ => lifted os started H enc)

/-- The statement. -/
theorem proved : Rows.SegCutsSaid :=
  over

end Go.Proofs.Ytohopmccggggbaa.SegCuts
