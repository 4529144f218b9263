
/- The document's own memory: what it holds; Read. -/
import Derived.Test.YtmmgcmbniidieaaGmRefF
import Derived.Test.YtmmgcmbniidieaaGmRefM
import Derived.Test.YtmmgcmbniidieaaSgConcat
namespace Go.Proofs.Ytmmgcmbniidieaa.GmRefP
open Go.RowKit Rw GmFind GmWord GmCheck GmNew GmCopyR GmRef GmRefN GmRefM SgConcat
set_option linter.unusedVariables false
set_option linter.unusedSimpArgs false

/-- Where a range begins that a region holds. -/
theorem place_at {r : Rg} {k i : Nat} {a n : Int} (hr : r.In k) (hi : i < k) (h : inR r a n i) : place r k a n = some (r.st i + (a - r.at_ i)).toNat := by
  obtain ⟨h1, h2, h3, h4⟩ := h
  have e : r.end_ i = r.at_ i + (r.len i - 1) := rfl
  have hid : idx r a k = i := by
    refine idx_eq r a k i (by omega) (fun j hj => ?_) (fun _ => by rw [e]; omega)
    obtain ⟨p, rfl⟩ : ∃ p, i = p + 1 := ⟨i - 1, by omega⟩
    have g1 := hr.mono' (i := j) (j := p) (by omega) (by omega)
    have g2 := hr.up p (by omega)
    omega
  have ho : okB r k (idx r a k) a n = true := by
    rw [hid]
    unfold okB
    rw [e, decide_eq_true hi, decide_eq_true h2, decide_eq_true h1, decide_eq_true (by omega)]
    rfl
  unfold place
  rw [if_pos ho, hid]

/-- The memory mm: its list, its row x of parts; byte j of part i is g (st i + j). -/
structure RM (W : World) (mm k c : Nat) (A : Option Addr) (r : Rg) (x : Value) (ps : List (Nat × Nat)) (g : Nat → Int) : Prop where
  k1 : k ≤ 1000000
  raw : Raw r k
  rin : r.In k
  len1 : ∀ i, i < k → r.len i ≤ 1048576
  st0 : ∀ i, i < k → 0 ≤ r.st i
  two : MM W mm (.slice A k c) x
  lst : Lst W W.heap.size A k r
  own : ∃ B, W.ownsRow B 37 1 x k (ps.map sl)
  len : ps.map (·.2) = lens k r
  row : ∀ i p, ps[i]? = some p → W.rowIs p.1 5 p.2 (fun j => .int .u8 (g ((r.st i).toNat + j)))
  nd : (ps.map (·.1)).Nodup
  ap : ∀ p ∈ ps, ∀ ad, A = some ad → ad.block ≠ p.1
  up : ∀ i j, i < j → j < k → r.st i + r.len i ≤ r.st j

section
variable {W : World} {mm k c : Nat} {A : Option Addr} {r : Rg} {x : Value} {ps : List (Nat × Nat)} {g : Nat → Int}
theorem RM.find (h : RM W mm k c A r x ps g) {a n : Int} (ha : 0 ≤ a ∧ a ≤ 18446744073709551615) (hn : 0 ≤ n ∧ n ≤ 18446744073709551615) :
    Calls Try.prog 54 #[.pointer (some ⟨mm, 0, none⟩), .int .u64 a, .int .u64 n] W (FindP r k a n W.heap.size W) :=
  r_find_any mm k c A r a n W h.k1 h.raw h.len1 ha hn (h.two.cell (i := 0) (by decide)) h.two.lt h.lst
theorem RM.has (h : RM W mm k c A r x ps g) {a n : Int} (ha : 0 ≤ a ∧ a ≤ 18446744073709551615) (hn : 0 ≤ n ∧ n ≤ 18446744073709551615) :
    Calls Try.prog 24 #[.pointer (some ⟨mm, 0, none⟩), .int .u64 a, .int .u64 n] W (GmWord.Gives W.heap.size W (.bool (place r k a n).isSome)) :=
  r_has_any mm k c A r a n W h.k1 h.raw h.rin h.len1 ha hn (h.two.cell (i := 0) (by decide)) h.two.lt h.lst
/-- Part i: a slice in the row, its bytes. -/
theorem RM.part (h : RM W mm k c A r x ps g) {i : Nat} (hi : i < k) : ∃ G b c3, x = .slice (some ⟨G, 0, none⟩) k c3 ∧ W.cell? ⟨G, i, none⟩ = some (.slice (some ⟨b, 0, none⟩) (r.len i).toNat (r.len i).toNat) ∧
    W.rowIs b 5 (r.len i).toNat (fun j => .int .u8 (g ((r.st i).toNat + j))) := by
  obtain ⟨B, hown⟩ := h.own
  have hl : ps.length = k := by have := congrArg List.length h.len; simpa [lens] using this
  obtain ⟨p, hp⟩ : ∃ p, ps[i]? = some p := ⟨_, List.getElem?_eq_getElem (by omega)⟩
  have h2 : p.2 = (r.len i).toNat := by
    have := congrArg (fun l => l[i]?) h.len
    simp only [List.getElem?_map, hp, lens, Option.map_some] at this
    rw [List.getElem?_range hi] at this
    simpa using this
  obtain ⟨A3, c3, rfl⟩ := own_slice hown
  rcases hown.2 with ⟨_, h0⟩ | ⟨G, cap, cur, he, _⟩
  · omega
  · obtain ⟨rfl, rfl⟩ : A3 = some ⟨G, 0, none⟩ ∧ c3 = cap := by injection he with e1 _ e2; exact ⟨e1, e2⟩
    refine ⟨G, p.1, c3, rfl, ?_, by have := h.row i p hp; rwa [h2] at this⟩
    rw [hown.cellAt i (by omega), List.getElem?_map, hp]
    simp [sl, h2]
end

set_option maxRecDepth 100000 in
set_option maxHeartbeats 2000000 in
theorem r_read_no {mm k c : Nat} {A : Option Addr} {r : Rg} {x : Value} {ps : List (Nat × Nat)} {g : Nat → Int} (a n : Int) (w : World) (h : RM w mm k c A r x ps g) (ha : 0 ≤ a ∧ a ≤ 18446744073709551615) (hn : 0 < n ∧ n ≤ 9223372036854775807) (hp : place r k a n = none) :
    Calls Try.prog 19 #[.pointer (some ⟨mm, 0, none⟩), .int .u64 a, .int .i64 n] w (GmWord.Gives w.heap.size w (.tuple #[.slice none 0 0, .int .i64 5])) := by
  unfold GmWord.Gives
  have HF := Lib.hid (h.find ha (n := n) (by omega))
  have HP := Lib.hid (show ∀ i, i < k → ¬ inR r a n i from fun i hi hin => by have := place_at h.rin hi hin; rw [hp] at this; cases this)
  have f0 : decide (n < (0 : Int)) = false := decide_eq_false (by omega)
  have f1 : decide (n = (0 : Int)) = false := decide_eq_false (by omega)
  have f2 : IntKind.u64.wrap n = n := by rw [IntKind.wrap_u64]; omega
  clear h hp
  go_enter Try.func19, Try.ntmps19
  go_wp2_with fail
  refine HF.out.mono ?_
  rintro e W ⟨hb, ⟨i, hi, hin, _, rfl⟩ | ⟨hno, rfl⟩⟩
  · exact (HP.out i hi hin).elim
  · go_wp2_with fail
    go_returns
    exact ⟨rfl, by go_grown⟩

/-- So many bytes from o on. -/
def bytesAt (g : Nat → Int) (o n : Nat) : List Int := (List.range n).map fun j => g (o + j)
def ReadP (g : Nat → Int) (o n : Nat) (w : World) (e : Ending) (w' : World) : Prop := ∃ (A : Option Addr) (c : Nat), e = .returned (.tuple #[.slice A n c, .int .i64 0]) ∧ w'.ownsRow w.heap.size 5 1 (.slice A n c) n (u8s (bytesAt g o n)) ∧ Below w.heap.size w w'

set_option maxRecDepth 100000 in
set_option maxHeartbeats 2000000 in
theorem r_read_ok {mm k c : Nat} {A : Option Addr} {r : Rg} {x : Value} {ps : List (Nat × Nat)} {g : Nat → Int} (a : Int) (n o : Nat) (w : World) (h : RM w mm k c A r x ps g) (ha : 0 ≤ a ∧ a ≤ 18446744073709551615) (hn : 0 < n ∧ n ≤ 1048576) (hp : place r k a n = some o) :
    Calls Try.prog 19 #[.pointer (some ⟨mm, 0, none⟩), .int .u64 a, .int .i64 (n : Int)] w (ReadP g o n w) := by
  unfold ReadP
  obtain ⟨i0, hi0, hz0, hz1, hz2⟩ := GmNew.u8info
  have H0 := Lib.hid hi0
  have H1 := Lib.hid hz0
  have H2 := Lib.hid hz1
  have H3 := Lib.hid hz2
  have HF := Lib.hid (h.find ha (n := n) (by omega))
  have HY := Lib.hid (show ∀ i, i < k → inR r a n i → o = (r.st i + (a - r.at_ i)).toNat from fun i hi hin => by have := place_at h.rin hi hin; rw [hp] at this; injection this)
  have HX := Lib.hid (show ∃ i, i < k ∧ inR r a n i from (place_inR h.rin).1 (by rw [hp]; rfl))
  have H := Lib.hid h
  have f0 : decide ((n : Int) < (0 : Int)) = false := decide_eq_false (by omega)
  have f1 : decide ((n : Int) = (0 : Int)) = false := decide_eq_false (by omega)
  have f2 : IntKind.u64.wrap (n : Int) = n := by rw [IntKind.wrap_u64]; omega
  clear h hp hi0 hz0 hz1 hz2
  go_enter Try.func19, Try.ntmps19
  go_wp2_with fail
  refine HF.out.mono ?_
  rintro e W ⟨hb, ⟨i, hi, hin, _, rfl⟩ | ⟨hno, rfl⟩⟩
  · obtain ⟨G, b, c3, rfl, hc, hrow⟩ := H.out.part hi
    have s0 := H.out.st0 i hi
    have l1 := H.out.len1 i hi
    obtain ⟨r1, r2, r3, r4⟩ := H.out.raw i hi
    have eo := HY.out i hi hin
    obtain ⟨d1, d2, d3, d4⟩ := hin
    obtain ⟨P, hP⟩ : ∃ P : Nat, a - r.at_ i = P := ⟨(a - r.at_ i).toNat, by omega⟩
    obtain ⟨L, hL⟩ : ∃ L : Nat, (r.len i).toNat = L := ⟨_, rfl⟩
    have hPL : P + n ≤ L := by omega
    have hLL : L ≤ 1048576 := by omega
    rw [hL] at hc hrow
    rw [hP]
    have hsw := hb.size
    have eo2 : o = (r.st i).toNat + P := by omega
    have hGl : G < w.heap.size := by
      obtain ⟨B, hown⟩ := H.out.own
      exact (hown.lt G rfl).2
    have m1 := (World.cell?_alloc_lt W (.cells #[] 5) ⟨mm, 1, none⟩ (by have := H.out.two.lt; show mm < _; omega)).trans ((hb.cell (p := ⟨mm, 1, none⟩) H.out.two.lt).trans (H.out.two.cell (i := 1) (by decide)))
    have mc := (World.cell?_alloc_lt W (.cells #[] 5) ⟨G, i, none⟩ (Nat.lt_of_lt_of_le hGl hsw)).trans ((hb.cell (p := ⟨G, i, none⟩) hGl).trans hc)
    have hr2 : (W.alloc (.cells #[] 5)).rowIs b 5 L (fun j => .int .u8 (g ((r.st i).toNat + j))) := World.rowIs.alloc (hrow.of_block (hb.block b hrow.lt)) _
    have HO := Lib.hid (World.ownsRow_made (base := w.heap.size) (e := 5) (size := 1) W #[] 0 hsw (by unfold maxLen; omega) rfl)
    have HNW := Lib.hid (show ∀ j u, (u8s (bytesAt g o n))[j]? = some u → (W.alloc (.cells #[] 5)).cell? ((⟨b, P, none⟩ : Addr).add j) = some u from fun j u hj => by
      have hj' : j < n ∧ u = .int .u8 (g (o + j)) := by
        unfold u8s bytesAt at hj
        simp only [List.getElem?_map, Option.map_eq_some_iff] at hj
        obtain ⟨z, ⟨q, hq, rfl⟩, rfl⟩ := hj
        obtain ⟨hq1, hq2⟩ := List.getElem?_eq_some_iff.1 hq
        simp at hq1 hq2
        subst hq2
        exact ⟨hq1, rfl⟩
      obtain ⟨hj1, rfl⟩ := hj'
      have e : ((⟨b, P, none⟩ : Addr).add j) = ⟨b, P + j, none⟩ := by unfold Addr.add; split <;> simp_all
      rw [e, hr2.cell (by omega), eo2]
      congr 2
      rw [Nat.add_assoc])
    have HS := Lib.hid (show (u8s (bytesAt g o n)).length = n * 1 from by simp [u8s, bytesAt])
    have hLP : ¬ L = P := by omega
    have x1 : (0 : Int) ≤ (P : Int) ∧ (P : Int) ≤ (P : Int) + (n : Int) ∧ (P : Int) + (n : Int) ≤ (L : Int) := by omega
    have x2 : (i : Int) < (k : Int) := by omega
    have HB := Lib.hid hb
    clear hb hc hrow hr2 eo eo2 d1 d2 d3 d4 r1 r2 r3 r4 s0 l1
    have m2 : (W.alloc (.cells #[] 5)).cell? ⟨mm, 1, none⟩ = some (.slice (some ⟨G, 0, none⟩) k c3) := m1
    clear m1
    have f3 : decide ((i : Int) < (0 : Int)) = false := decide_eq_false (by omega)
    have hpn : P + n - P = n := by omega
    go_wp2_with (at_builtin; refine wpList_append_own _ rfl _ _ 37 rfl w.heap.size 5 i0 (.int .u8 0) 1 1 Try.underlying37 H0.out H1.out H2.out H3.out rfl (by decide) (.slice (some ⟨W.heap.size, 0, none⟩) 0 0) 0 [] rfl HO.out ⟨b, P, none⟩ (P + n - P) (L - P) (u8s (bytesAt g o n)) rfl (by rw [hpn]; exact HS.out) HNW.out (u8s_one _) (by unfold maxLen; omega) (by omega) (by rw [World.size_alloc]; omega) ?_)
    intro v' W2 hown' hg' _
    have hown2 : W2.ownsRow w.heap.size 5 1 v' n (u8s (bytesAt g o n)) := by
      simpa [hpn] using hown'
    obtain ⟨A', c', rfl⟩ := own_slice hown2
    have hb2 : Below w.heap.size w W2 := (HB.out.alloc hsw _).grown hg' (by rw [World.size_alloc]; omega) (fun b e => by cases e; exact hsw)
    have HH := Lib.hid (And.intro hown2 hb2)
    clear hown' hg' hown2 hb2 mc m2
    go_wp2_with fail
    go_returns
    exact ⟨A', c', rfl, HH.out.1, HH.out.2⟩
  · obtain ⟨i, hi, hin⟩ := HX.out
    exact absurd hin (hno i hi)

theorem sum_up {r : Rg} {k i : Nat} (hr : Raw r k) : ∀ {j : Nat}, j ≤ k → i < j → sum r i + r.len i ≤ sum r j
  | 0, _, h => by omega
  | j + 1, hj, h => by
    have e : sum r (j + 1) = sum r j + r.len j := rfl
    rcases Nat.lt_or_ge i j with h1 | h1
    · have := sum_up (j := j) hr (by omega) h1
      have := (hr j (by omega)).2.2.1
      omega
    · obtain rfl : i = j := by omega
      omega
theorem in_steps {r : Rg} {k : Nat} (hr : Raw r k) (hs : ∀ i, i < k → Step r i) : (stR r).In k :=
  ⟨fun i hi => (hr i hi).1, fun i hi => (hs i hi).1, fun i hi => (hs i hi).2.2.1, fun i hi => (hs (i + 1) hi).2.2.2 (by omega)⟩
/-- What New makes. -/
theorem RM.of_new {W : World} {m k c B : Nat} {A : Option Addr} {r : Rg} {x : Value} {ps : List (Nat × Nat)} (hk : k ≤ 16) (hr : Raw r k) (hs : ∀ i, i < k → Step r i)
    (hM : MM W m (.slice A k c) x) (hP : Ps W m m x ps) (hl : ps.map (·.2) = lens k r) (ho : W.ownsRow B 55 2 (.slice A k c) k (rowR k r)) (hb : ∀ b, (Value.slice A k c).ownBlock = some b → b < m) : RM W m k c A (stR r) x ps (fun _ => 0) := by
  have hpl : ps.length = k := by have := congrArg List.length hl; simpa [lens] using this
  refine ⟨by omega, fun i hi => hr i hi, in_steps hr hs, fun i hi => ?_, fun i hi => sum_lo hr i (by omega), hM, ?_, ⟨m, by have := hP.own; rwa [hpl] at this⟩, hl, fun i p hp => ?_, hP.nd, fun p hp ad e => ?_, fun i j hij hj => ?_⟩
  · have h1 := hs i hi
    have h2 := sum_lo hr i (by omega)
    show r.len i ≤ _
    have := h1.2.1
    omega
  · show IsRow W W.heap.size 2 A k r.cell
    refine (IsRow.of_own ho).congr fun j hj => ?_
    simp [rowR, List.getD_eq_getElem?_getD, hj]
  · exact (hP.row p (List.mem_of_getElem? hp)).2.2
  · have h1 := (hP.row p hp).1
    have h2 := hb ad.block (by rw [e]; rfl)
    omega
  · show sum r i + r.len i ≤ sum r j
    exact sum_up hr (by omega) hij
/-- Nothing that was there has changed. -/
theorem RM.below {W W' : World} {m k c : Nat} {A : Option Addr} {r : Rg} {x : Value} {ps : List (Nat × Nat)} {g : Nat → Int} (h : RM W m k c A r x ps g) (hb : Below W.heap.size W W') : RM W' m k c A r x ps g := by
  obtain ⟨B, ho⟩ := h.own
  exact ⟨h.k1, h.raw, h.rin, h.len1, h.st0, h.two.of_block (hb.block _ h.two.lt), (IsRow.below h.lst hb).more hb.size, ⟨B, ho.kept (row := none) (only_of_below hb none) (by cases x.ownBlock <;> simp)⟩, h.len, fun i p hp => (h.row i p hp).of_block (hb.block _ (h.row i p hp).lt), h.nd, h.ap, h.up⟩

set_option maxRecDepth 100000 in
theorem r_read_neg (v : Value) (a n : Int) (w : World) (hn : n < 0) : Calls Try.prog 19 #[v, .int .u64 a, .int .i64 n] w (GmWord.Gives w.heap.size w (.tuple #[.slice none 0 0, .int .i64 2])) := by
  unfold GmWord.Gives
  have f0 : decide (n < (0 : Int)) = true := decide_eq_true hn
  go_enter Try.func19, Try.ntmps19
  go_wp2_with fail
  go_returns
  exact ⟨rfl, by go_grown⟩
set_option maxRecDepth 100000 in
theorem r_read_zero (v : Value) (a : Int) (w : World) : Calls Try.prog 19 #[v, .int .u64 a, .int .i64 0] w (GmWord.Gives w.heap.size w (.tuple #[.slice none 0 0, .int .i64 0])) := by
  unfold GmWord.Gives
  go_enter Try.func19, Try.ntmps19
  go_wp2_with fail
  go_returns
  exact ⟨rfl, by go_grown⟩
end Go.Proofs.Ytmmgcmbniidieaa.GmRefP
