/- The law LayoutApart: each element of rings is within its part; no two elements share a byte. For every input; no condition. -/
import Derived.Test.YtlcpdhplaaljaaaLayLives
import Derived.Test.YtlcpdhplaaljaaaLayArgs
import Derived.Deep.DeepCutAuto
namespace Go.Proofs.Ytlcpdhplaaljaaa.LayoutApart
open Go.ChangeShapes Go.WideShapes Go.ChangeAt Go.RowKit Ser Lay
set_option linter.unusedVariables false
set_option linter.unusedSimpArgs false

theorem closure_any (a : Int) (w : World) : Calls Try.prog 26 #[num a] w fun e w' => e = .returned (.bool (splitB a)) ∧ w = w' := by
  unfold splitB
  by_cases h : 1 < a
  · go_enter Try.func26, Try.ntmps26
    go_wp2
    go_ret
    exact ⟨by first | rfl | simp [h], rfl⟩
  · go_enter Try.func26, Try.ntmps26
    go_wp2
    go_ret
    exact ⟨by rw [show decide (1 < a) = false from by simpa using h]; rfl, rfl⟩

/-- One element: what Where says of it, and what the law asks of it. -/
inductive Cls (p : Bool) (n d v e x y z a i : Int) : Int → Int → Int → Prop
  | one (s l : Int) (h : a = 1) (hi : okE p a = true) : s = elemS p n d v e a i → l = elemL p a → Cls p n d v e x y z a i s l 0
  | yes (s l : Int) (h : a ≠ 1) (hs : (splitB a != p) = true) (hi : okE p a = true) : s = elemS p n d v e a i → l = elemL p a → Cls p n d v e x y z a i s l 0
  | no (h : a ≠ 1) (hs : (splitB a != p) = false) : Cls p n d v e x y z a i 0 0 2

theorem cls {p : Bool} {n d v e x y z a i s l f : Int} (hc : checkB p n d v e = true) (V : Valid p n d v e x y z) (ha : 1 ≤ a ∧ a ≤ 11) (hi : 0 ≤ i ∧ i < n) (h0 : manyB a = false → i = 0) (h : whereI p n d v e a i = (s, l, f)) : Cls p n d v e x y z a i s l f := by
  cases hk : okE p a with
  | true =>
    rw [where_yes hc V ha hi h0 hk] at h
    cases h
    by_cases h1 : a = 1
    · exact .one _ _ h1 hk rfl rfl
    · exact .yes _ _ h1 (by unfold okE at hk; simpa [h1] using hk) hk rfl rfl
  | false =>
    rw [where_no ha hi.1 hk] at h
    cases h
    unfold okE at hk
    rw [Bool.or_eq_false_iff] at hk
    exact .no (by simpa using hk.1) hk.2

/-- Both ends of an element are in a part. -/
theorem over_ends {p : Bool} {n d v e x y z a i : Int} (hc : checkB p n d v e = true) (hp : partsI p n = (x, y, z)) (V : Valid p n d v e x y z) (ha : 1 ≤ a ∧ a ≤ 11) (hi : 0 ≤ i ∧ i < n) (h0 : manyB a = false → i = 0) (hk : okE p a = true) :
    overB p n d v e (elemS p n d v e a i) 1 = true ∧ overB p n d v e (elemS p n d v e a i + elemL p a - 1) 1 = true := by
  obtain ⟨h1, h2, h3⟩ := elem_in V ha hi h0 hk
  have key : ∀ s, ((d ≤ s ∧ s + 1 ≤ d + x) ∨ (v ≤ s ∧ s + 1 ≤ v + y) ∨ (e ≤ s ∧ s + 1 ≤ e + z)) → overB p n d v e s 1 = true := by
    intro s hs
    unfold overB overP
    rw [hc, hp]
    simp only [Bool.true_and]
    rw [show (!decide ((1 : Int) = 0)) = true from rfl, Bool.true_and]
    rcases hs with ⟨h1, h2⟩ | ⟨h1, h2⟩ | ⟨h1, h2⟩
    · rw [shareB_in h1 (by omega)]; rfl
    · rw [shareB_in (a := v) h1 (by omega)]; simp
    · rw [shareB_in (a := e) h1 (by omega)]; simp
  exact ⟨key _ (by omega), key _ (by omega)⟩

theorem wrap_back {s l : Int} (h0 : 0 ≤ s) (h1 : 1 ≤ l) (h2 : s + l ≤ 18446744073709551616) : IntKind.u64.wrap (IntKind.u64.wrap (s + l) - 1) = s + l - 1 := by
  rw [IntKind.wrap_u64, IntKind.wrap_u64]; omega
theorem elem_bnd {p : Bool} {n d v e x y z a i : Int} (V : Valid p n d v e x y z) (ha : 1 ≤ a ∧ a ≤ 11) (hi : 0 ≤ i ∧ i < n) (h0 : manyB a = false → i = 0) (h : okE p a = true) :
    2 ≤ elemL p a ∧ elemL p a ≤ 16 ∧ 0 ≤ elemS p n d v e a i ∧ elemS p n d v e a i + elemL p a ≤ 18446744073709551616 := by
  obtain ⟨h1, h2, h3⟩ := elem_in V ha hi h0 h
  have v1 := V.dx
  have v2 := V.vy
  have v3 := V.ez
  clear V
  omega
/-- What the law reckons with two elements that are there. -/
structure Facts (p : Bool) (n d v e a i b j s l t m s2 t2 q1 q2 : Int) : Prop where
  fl : 2 ≤ l ∧ l ≤ 16 ∧ u64in s
  fm : 2 ≤ m ∧ m ≤ 16 ∧ u64in t
  fs : u64in s2
  ft : u64in t2
  ws : IntKind.u64.wrap (s + l) = q1 ∧ IntKind.u64.wrap (q1 - 1) = s2
  wt : IntKind.u64.wrap (t + m) = q2 ∧ IntKind.u64.wrap (q2 - 1) = t2
  o1 : overB p n d v e s 1 = true
  o2 : overB p n d v e s2 1 = true
  ap : (s2 < t ∨ t2 < s) ↔ (a ≠ b ∨ i ≠ j)
theorem facts {p : Bool} {n d v e x y z a i b j s l t m : Int} (hc : checkB p n d v e = true) (hp : partsI p n = (x, y, z)) (V : Valid p n d v e x y z) (ha : 1 ≤ a ∧ a ≤ 11) (hb : 1 ≤ b ∧ b ≤ 11)
    (hi : (0 ≤ i ∧ i < n) ∧ (manyB a = false → i = 0)) (hj : (0 ≤ j ∧ j < n) ∧ (manyB b = false → j = 0)) (ka : okE p a = true) (kb : okE p b = true)
    (es : s = elemS p n d v e a i) (el : l = elemL p a) (et : t = elemS p n d v e b j) (em : m = elemL p b) :
    ∃ s2 t2 q1 q2 : Int, Facts p n d v e a i b j s l t m s2 t2 q1 q2 := by
  have h1 := elem_bnd V ha hi.1 hi.2 ka
  have g1 := elem_bnd V hb hj.1 hj.2 kb
  obtain ⟨o1, o2⟩ := over_ends hc hp V ha hi.1 hi.2 ka
  have E := elem_apart V ha hi.1 hi.2 ka hb hj.1 hj.2 kb
  rw [← es, ← el] at h1 o2 E
  rw [← es] at o1
  rw [← et, ← em] at g1 E
  clear V hi hj ha hb ka kb es el et em hc hp
  obtain ⟨h1, h2, h3, h4⟩ := h1
  obtain ⟨g1, g2, g3, g4⟩ := g1
  exact ⟨s + l - 1, t + m - 1, IntKind.u64.wrap (s + l), IntKind.u64.wrap (t + m), ⟨h1, h2, h3, by clear E; omega⟩, ⟨g1, g2, g3, by clear E; omega⟩, ⟨by clear E; omega, by clear E; omega⟩, ⟨by clear E; omega, by clear E; omega⟩,
    ⟨rfl, wrap_back h3 (by clear E; omega) h4⟩, ⟨rfl, wrap_back g3 (by clear E; omega) g4⟩, o1, o2, E⟩
theorem one_in : u64in 1 := ⟨by decide, by decide⟩

set_option maxRecDepth 100000 in
set_option maxHeartbeats 8000000 in
theorem walk (p : Bool) (n d v e a0 i0 b0 j0 : Int) (wr : (Lit.int .i64 n).wf = true ∧ u64in d ∧ u64in v ∧ u64in e) (wa : (Lit.int .i64 a0).wf = true) (wi : (Lit.int .i64 i0).wf = true) (wb : (Lit.int .i64 b0).wf = true) (wj : (Lit.int .i64 j0).wf = true) (w : World) :
    Calls Try.prog 5 #[ringV p n d v e, num a0, num i0, num b0, num j0] w (Lib.True1 w.heap.size w) := by
  unfold Lib.True1
  obtain ⟨wn, hd, hv, he⟩ := wr
  have hb0 : Below w.heap.size w w := Below.refl _ _
  have hD := Lib.hid hd
  have hV := Lib.hid hv
  have hE := Lib.hid he
  cases hc : checkB p n d v e with
  | false =>
    have HC := Lib.hid (show (if checkB p n d v e = true then (0 : Int) else 2) = 2 from by rw [hc]; rfl)
    clear hc hd hv he
    go_enter Try.func5, Try.ntmps5
    go_wp2_with fail
    refine (lives_any _).mono ?_
    rintro eE W1 ⟨rfl, hg1⟩
    have hb1 : Below w.heap.size w W1 := (show Below w.heap.size w _ by go_grown).trans (hg1.mono (by first | omega | go_size))
    obtain ⟨hc1, hf1⟩ := bcell hg1
    have hs1 := hg1.size
    try simp only [World.size_alloc, World.size_setCell, World.size_drew] at hs1
    have hl1_0_0 : W1.cell? ⟨w.heap.size, 0, none⟩ = some (.bool p) := (hc1 _ _ (by first | omega | go_size)).trans (by first | (with_reducible assumption) | go_cell)
    have hz1_0_0 : W1.frozen? ⟨w.heap.size, 0, none⟩ = false := (hf1 _ _ (by first | omega | go_size)).trans (by first | (with_reducible assumption) | (go_simp; done) | (simp [*]; done))
    have hl1_0_1 : W1.cell? ⟨w.heap.size, 1, none⟩ = some (num n) := (hc1 _ _ (by first | omega | go_size)).trans (by first | (with_reducible assumption) | go_cell)
    have hz1_0_1 : W1.frozen? ⟨w.heap.size, 1, none⟩ = false := (hf1 _ _ (by first | omega | go_size)).trans (by first | (with_reducible assumption) | (go_simp; done) | (simp [*]; done))
    have hl1_0_2 : W1.cell? ⟨w.heap.size, 2, none⟩ = some (u64 d) := (hc1 _ _ (by first | omega | go_size)).trans (by first | (with_reducible assumption) | go_cell)
    have hz1_0_2 : W1.frozen? ⟨w.heap.size, 2, none⟩ = false := (hf1 _ _ (by first | omega | go_size)).trans (by first | (with_reducible assumption) | (go_simp; done) | (simp [*]; done))
    have hl1_0_3 : W1.cell? ⟨w.heap.size, 3, none⟩ = some (u64 v) := (hc1 _ _ (by first | omega | go_size)).trans (by first | (with_reducible assumption) | go_cell)
    have hz1_0_3 : W1.frozen? ⟨w.heap.size, 3, none⟩ = false := (hf1 _ _ (by first | omega | go_size)).trans (by first | (with_reducible assumption) | (go_simp; done) | (simp [*]; done))
    have hl1_0_4 : W1.cell? ⟨w.heap.size, 4, none⟩ = some (u64 e) := (hc1 _ _ (by first | omega | go_size)).trans (by first | (with_reducible assumption) | go_cell)
    have hz1_0_4 : W1.frozen? ⟨w.heap.size, 4, none⟩ = false := (hf1 _ _ (by first | omega | go_size)).trans (by first | (with_reducible assumption) | (go_simp; done) | (simp [*]; done))
    have hk1_0 : w.heap.size < W1.heap.size := by omega
    clear hg1 hc1 hf1
    go_wp2_with fail
    refine (check_is p n d v e 2 hD.out hV.out hE.out HC.out _).mono ?_
    rintro eE W2 ⟨rfl, hg2⟩
    have hb2 : Below w.heap.size w W2 := (show Below w.heap.size w _ by go_grown).trans (hg2.mono (by first | omega | go_size))
    obtain ⟨hc2, hf2⟩ := bcell hg2
    have hs2 := hg2.size
    try simp only [World.size_alloc, World.size_setCell, World.size_drew] at hs2
    have hl2_0_0 : W2.cell? ⟨w.heap.size, 0, none⟩ = some (.bool p) := (hc2 _ _ (by first | omega | go_size)).trans (by first | (with_reducible assumption) | go_cell)
    have hz2_0_0 : W2.frozen? ⟨w.heap.size, 0, none⟩ = false := (hf2 _ _ (by first | omega | go_size)).trans (by first | (with_reducible assumption) | (go_simp; done) | (simp [*]; done))
    have hl2_0_1 : W2.cell? ⟨w.heap.size, 1, none⟩ = some (num n) := (hc2 _ _ (by first | omega | go_size)).trans (by first | (with_reducible assumption) | go_cell)
    have hz2_0_1 : W2.frozen? ⟨w.heap.size, 1, none⟩ = false := (hf2 _ _ (by first | omega | go_size)).trans (by first | (with_reducible assumption) | (go_simp; done) | (simp [*]; done))
    have hl2_0_2 : W2.cell? ⟨w.heap.size, 2, none⟩ = some (u64 d) := (hc2 _ _ (by first | omega | go_size)).trans (by first | (with_reducible assumption) | go_cell)
    have hz2_0_2 : W2.frozen? ⟨w.heap.size, 2, none⟩ = false := (hf2 _ _ (by first | omega | go_size)).trans (by first | (with_reducible assumption) | (go_simp; done) | (simp [*]; done))
    have hl2_0_3 : W2.cell? ⟨w.heap.size, 3, none⟩ = some (u64 v) := (hc2 _ _ (by first | omega | go_size)).trans (by first | (with_reducible assumption) | go_cell)
    have hz2_0_3 : W2.frozen? ⟨w.heap.size, 3, none⟩ = false := (hf2 _ _ (by first | omega | go_size)).trans (by first | (with_reducible assumption) | (go_simp; done) | (simp [*]; done))
    have hl2_0_4 : W2.cell? ⟨w.heap.size, 4, none⟩ = some (u64 e) := (hc2 _ _ (by first | omega | go_size)).trans (by first | (with_reducible assumption) | go_cell)
    have hz2_0_4 : W2.frozen? ⟨w.heap.size, 4, none⟩ = false := (hf2 _ _ (by first | omega | go_size)).trans (by first | (with_reducible assumption) | (go_simp; done) | (simp [*]; done))
    have hk2_0 : w.heap.size < W2.heap.size := by omega
    clear hg2 hc2 hf2
    go_wp2_with fail
    go_ret
    exact ⟨rfl, by go_grown⟩
  | true =>
  have HC := Lib.hid (show (if checkB p n d v e = true then (0 : Int) else 2) = 0 from by rw [hc]; rfl)
  obtain ⟨x, y, z, hp⟩ : ∃ x y z, partsI p n = (x, y, z) := ⟨_, _, _, rfl⟩
  have HV := Lib.hid (valid_of hd hv he hc hp)
  have hn := sizeB_in (check_size hc)
  have HK := Lib.hid hc
  have HP := Lib.hid hp
  have HN := Lib.hid hn
  have hnn : 1 ≤ n ∧ n ≤ 9223372036854775807 := by omega
  clear hc hd hv he hp
  go_enter Try.func5, Try.ntmps5
  go_wp2_with fail
  refine (lives_any _).mono ?_
  rintro eE W1 ⟨rfl, hg1⟩
  have hb1 : Below w.heap.size w W1 := (show Below w.heap.size w _ by go_grown).trans (hg1.mono (by first | omega | go_size))
  obtain ⟨hc1, hf1⟩ := bcell hg1
  have hs1 := hg1.size
  try simp only [World.size_alloc, World.size_setCell, World.size_drew] at hs1
  have hl1_0_0 : W1.cell? ⟨w.heap.size, 0, none⟩ = some (.bool p) := (hc1 _ _ (by first | omega | go_size)).trans (by first | (with_reducible assumption) | go_cell)
  have hz1_0_0 : W1.frozen? ⟨w.heap.size, 0, none⟩ = false := (hf1 _ _ (by first | omega | go_size)).trans (by first | (with_reducible assumption) | (go_simp; done) | (simp [*]; done))
  have hl1_0_1 : W1.cell? ⟨w.heap.size, 1, none⟩ = some (num n) := (hc1 _ _ (by first | omega | go_size)).trans (by first | (with_reducible assumption) | go_cell)
  have hz1_0_1 : W1.frozen? ⟨w.heap.size, 1, none⟩ = false := (hf1 _ _ (by first | omega | go_size)).trans (by first | (with_reducible assumption) | (go_simp; done) | (simp [*]; done))
  have hl1_0_2 : W1.cell? ⟨w.heap.size, 2, none⟩ = some (u64 d) := (hc1 _ _ (by first | omega | go_size)).trans (by first | (with_reducible assumption) | go_cell)
  have hz1_0_2 : W1.frozen? ⟨w.heap.size, 2, none⟩ = false := (hf1 _ _ (by first | omega | go_size)).trans (by first | (with_reducible assumption) | (go_simp; done) | (simp [*]; done))
  have hl1_0_3 : W1.cell? ⟨w.heap.size, 3, none⟩ = some (u64 v) := (hc1 _ _ (by first | omega | go_size)).trans (by first | (with_reducible assumption) | go_cell)
  have hz1_0_3 : W1.frozen? ⟨w.heap.size, 3, none⟩ = false := (hf1 _ _ (by first | omega | go_size)).trans (by first | (with_reducible assumption) | (go_simp; done) | (simp [*]; done))
  have hl1_0_4 : W1.cell? ⟨w.heap.size, 4, none⟩ = some (u64 e) := (hc1 _ _ (by first | omega | go_size)).trans (by first | (with_reducible assumption) | go_cell)
  have hz1_0_4 : W1.frozen? ⟨w.heap.size, 4, none⟩ = false := (hf1 _ _ (by first | omega | go_size)).trans (by first | (with_reducible assumption) | (go_simp; done) | (simp [*]; done))
  have hk1_0 : w.heap.size < W1.heap.size := by omega
  clear hg1 hc1 hf1
  go_wp2_with fail
  refine (check_is p n d v e 0 hD.out hV.out hE.out HC.out _).mono ?_
  rintro eE W2 ⟨rfl, hg2⟩
  have hb2 : Below w.heap.size w W2 := (show Below w.heap.size w _ by go_grown).trans (hg2.mono (by first | omega | go_size))
  obtain ⟨hc2, hf2⟩ := bcell hg2
  have hs2 := hg2.size
  try simp only [World.size_alloc, World.size_setCell, World.size_drew] at hs2
  have hl2_0_0 : W2.cell? ⟨w.heap.size, 0, none⟩ = some (.bool p) := (hc2 _ _ (by first | omega | go_size)).trans (by first | (with_reducible assumption) | go_cell)
  have hz2_0_0 : W2.frozen? ⟨w.heap.size, 0, none⟩ = false := (hf2 _ _ (by first | omega | go_size)).trans (by first | (with_reducible assumption) | (go_simp; done) | (simp [*]; done))
  have hl2_0_1 : W2.cell? ⟨w.heap.size, 1, none⟩ = some (num n) := (hc2 _ _ (by first | omega | go_size)).trans (by first | (with_reducible assumption) | go_cell)
  have hz2_0_1 : W2.frozen? ⟨w.heap.size, 1, none⟩ = false := (hf2 _ _ (by first | omega | go_size)).trans (by first | (with_reducible assumption) | (go_simp; done) | (simp [*]; done))
  have hl2_0_2 : W2.cell? ⟨w.heap.size, 2, none⟩ = some (u64 d) := (hc2 _ _ (by first | omega | go_size)).trans (by first | (with_reducible assumption) | go_cell)
  have hz2_0_2 : W2.frozen? ⟨w.heap.size, 2, none⟩ = false := (hf2 _ _ (by first | omega | go_size)).trans (by first | (with_reducible assumption) | (go_simp; done) | (simp [*]; done))
  have hl2_0_3 : W2.cell? ⟨w.heap.size, 3, none⟩ = some (u64 v) := (hc2 _ _ (by first | omega | go_size)).trans (by first | (with_reducible assumption) | go_cell)
  have hz2_0_3 : W2.frozen? ⟨w.heap.size, 3, none⟩ = false := (hf2 _ _ (by first | omega | go_size)).trans (by first | (with_reducible assumption) | (go_simp; done) | (simp [*]; done))
  have hl2_0_4 : W2.cell? ⟨w.heap.size, 4, none⟩ = some (u64 e) := (hc2 _ _ (by first | omega | go_size)).trans (by first | (with_reducible assumption) | go_cell)
  have hz2_0_4 : W2.frozen? ⟨w.heap.size, 4, none⟩ = false := (hf2 _ _ (by first | omega | go_size)).trans (by first | (with_reducible assumption) | (go_simp; done) | (simp [*]; done))
  have hk2_0 : w.heap.size < W2.heap.size := by omega
  clear hg2 hc2 hf2
  go_wp2_with fail
  refine (pick_some a0 11 (by omega) wa _).mono ?_
  rintro e w' ⟨ka, ka1, ka2, rfl, rfl⟩
  go_wp2_with fail
  refine (pick_some b0 11 (by omega) wb _).mono ?_
  rintro e w' ⟨kb, kb1, kb2, rfl, rfl⟩
  go_wp2_with fail
  obtain ⟨a, ha⟩ : ∃ a, 1 + ka = a := ⟨_, rfl⟩
  obtain ⟨b, hb⟩ : ∃ a, 1 + kb = a := ⟨_, rfl⟩
  have ha1 : 1 ≤ a ∧ a ≤ 11 := by omega
  have hb1' : 1 ≤ b ∧ b ≤ 11 := by omega
  rw [ha, hb]
  clear ha hb ka1 ka2 kb1 kb2
  refine Lib.wp_region_class (Lib.Held w _ [(w.heap.size, 0, (.bool p : Value)), (w.heap.size, 1, (num n : Value)), (w.heap.size, 2, (u64 d : Value)), (w.heap.size, 3, (u64 v : Value)), (w.heap.size, 4, (u64 e : Value))]) (by kernel_rfl) (by kernel_rfl) ⟨by go_grown, Below.refl _ _, ⟨by first | omega | go_size, by first | go_cell | (simp [*]; done), by first | (with_reducible assumption) | (go_simp; done) | (simp [*]; done)⟩, ⟨by first | omega | go_size, by first | go_cell | (simp [*]; done), by first | (with_reducible assumption) | (go_simp; done) | (simp [*]; done)⟩, ⟨by first | omega | go_size, by first | go_cell | (simp [*]; done), by first | (with_reducible assumption) | (go_simp; done) | (simp [*]; done)⟩, ⟨by first | omega | go_size, by first | go_cell | (simp [*]; done), by first | (with_reducible assumption) | (go_simp; done) | (simp [*]; done)⟩, ⟨by first | omega | go_size, by first | go_cell | (simp [*]; done), by first | (with_reducible assumption) | (go_simp; done) | (simp [*]; done)⟩, trivial⟩ ?_
  repeat (first | go_big_quiet_step ((intro hq; first | rfl | (go_at_call 25; exact Lib.Held.same hq (pick_any _ _ hnn (by assumption) _)) | (have hq' := hq; obtain ⟨hbq, heq, ⟨hkq_0, hlq_0, hzq_0⟩, ⟨hkq_1, hlq_1, hzq_1⟩, ⟨hkq_2, hlq_2, hzq_2⟩, ⟨hkq_3, hlq_3, hzq_3⟩, ⟨hkq_4, hlq_4, hzq_4⟩, _⟩ := hq'; go_simp; rfl))) | quiet_step ((intro hq; first | rfl | (go_at_call 25; exact Lib.Held.same hq (pick_any _ _ hnn (by assumption) _)) | (have hq' := hq; obtain ⟨hbq, heq, ⟨hkq_0, hlq_0, hzq_0⟩, ⟨hkq_1, hlq_1, hzq_1⟩, ⟨hkq_2, hlq_2, hzq_2⟩, ⟨hkq_3, hlq_3, hzq_3⟩, ⟨hkq_4, hlq_4, hzq_4⟩, _⟩ := hq'; go_simp; rfl))))
  refine wpQuiet_nil ?_
  intro W3 hq3
  obtain ⟨hb3, he3, ⟨hk3_0, hl3_0, hz3_0⟩, ⟨hk3_1, hl3_1, hz3_1⟩, ⟨hk3_2, hl3_2, hz3_2⟩, ⟨hk3_3, hl3_3, hz3_3⟩, ⟨hk3_4, hl3_4, hz3_4⟩, _⟩ := hq3
  have hs3 := he3.size
  try simp only [World.size_alloc, World.size_setCell, World.size_drew] at hs3
  obtain ⟨i, hi⟩ : ∃ i, i0 % n = i := ⟨_, rfl⟩
  obtain ⟨j, hj⟩ : ∃ i, j0 % n = i := ⟨_, rfl⟩
  have hi1 : 0 ≤ i ∧ i < n := hi ▸ ⟨Int.emod_nonneg _ (by omega), Int.emod_lt_of_pos _ (by omega)⟩
  have hj1 : 0 ≤ j ∧ j < n := hj ▸ ⟨Int.emod_nonneg _ (by omega), Int.emod_lt_of_pos _ (by omega)⟩
  rw [hi, hj]
  clear hi hj
  have HI := Lib.hid hi1
  have HJ := Lib.hid hj1
  clear hi1 hj1
  go_upto_region 7 with fail
  go_cut [49] (fun s wx => s = .bool (!manyB a) ∧ W3 = wx)
  case first =>
    by_cases h1 : a = 1
    · have g1 : (a != 1) = false := by simp [h1]
      go_wp2_with fail
      go_meet
      exact ⟨by rw [h1]; rfl, rfl⟩
    · have g1 : (a != 1) = true := by simp [h1]
      by_cases h4 : a = 4
      · have g4 : (a != 4) = false := by simp [h4]
        go_wp2_with fail
        go_meet
        exact ⟨by rw [h4]; rfl, rfl⟩
      · have g4 : (a != 4) = true := by simp [h4]
        by_cases h8 : a = 8
        · have g8 : (a != 8) = false := by simp [h8]
          go_wp2_with fail
          go_meet
          exact ⟨by rw [h8]; rfl, rfl⟩
        · have g8 : (a != 8) = true := by simp [h8]
          go_wp2_with fail
          go_meet
          exact ⟨by unfold manyB; simp [h1, h4, h8], rfl⟩
  case rest =>
  obtain ⟨rfl, rfl⟩ := hcut
  obtain ⟨i2, hi2⟩ : ∃ i2, (if manyB a = true then i else 0) = i2 := ⟨_, rfl⟩
  have HI2 : Hid ((0 ≤ i2 ∧ i2 < n) ∧ (manyB a = false → i2 = 0)) := Lib.hid (by
    have := HI.out
    rw [← hi2]
    refine ⟨by split <;> omega, fun h => by rw [h]; rfl⟩)
  go_upto_if 49 with fail
  go_cut [2] (fun s wx => s = num i2 ∧ W3 = wx)
  case first =>
    cases hm : manyB a with
    | true =>
      go_wp2_with fail
      go_meet
      exact ⟨by rw [← hi2, hm]; rfl, rfl⟩
    | false =>
      go_wp2_with fail
      go_meet
      exact ⟨by rw [← hi2, hm]; rfl, rfl⟩
  case rest =>
  obtain ⟨rfl, rfl⟩ := hcut
  go_upto_region 9 with fail
  go_cut [59] (fun s wx => s = .bool (!manyB b) ∧ W3 = wx)
  case first =>
    by_cases h1 : b = 1
    · have g1 : (b != 1) = false := by simp [h1]
      go_wp2_with fail
      go_meet
      exact ⟨by rw [h1]; rfl, rfl⟩
    · have g1 : (b != 1) = true := by simp [h1]
      by_cases h4 : b = 4
      · have g4 : (b != 4) = false := by simp [h4]
        go_wp2_with fail
        go_meet
        exact ⟨by rw [h4]; rfl, rfl⟩
      · have g4 : (b != 4) = true := by simp [h4]
        by_cases h8 : b = 8
        · have g8 : (b != 8) = false := by simp [h8]
          go_wp2_with fail
          go_meet
          exact ⟨by rw [h8]; rfl, rfl⟩
        · have g8 : (b != 8) = true := by simp [h8]
          go_wp2_with fail
          go_meet
          exact ⟨by unfold manyB; simp [h1, h4, h8], rfl⟩
  case rest =>
  obtain ⟨rfl, rfl⟩ := hcut
  obtain ⟨j2, hj2⟩ : ∃ j2, (if manyB b = true then j else 0) = j2 := ⟨_, rfl⟩
  have HJ2 : Hid ((0 ≤ j2 ∧ j2 < n) ∧ (manyB b = false → j2 = 0)) := Lib.hid (by
    have := HJ.out
    rw [← hj2]
    refine ⟨by split <;> omega, fun h => by rw [h]; rfl⟩)
  go_upto_if 59 with fail
  go_cut [4] (fun s wx => s = num j2 ∧ W3 = wx)
  case first =>
    cases hm : manyB b with
    | true =>
      go_wp2_with fail
      go_meet
      exact ⟨by rw [← hj2, hm]; rfl, rfl⟩
    | false =>
      go_wp2_with fail
      go_meet
      exact ⟨by rw [← hj2, hm]; rfl, rfl⟩
  case rest =>
  obtain ⟨rfl, rfl⟩ := hcut
  have HA := Lib.hid ha1
  have HB := Lib.hid hb1'
  obtain ⟨s, l, f1, hw1⟩ : ∃ s l f, whereI p n d v e a i2 = (s, l, f) := ⟨_, _, _, rfl⟩
  obtain ⟨t, m, f2, hw2⟩ : ∃ s l f, whereI p n d v e b j2 = (s, l, f) := ⟨_, _, _, rfl⟩
  have C1 := cls HK.out HV.out ha1 HI2.out.1 HI2.out.2 hw1
  have C2 := cls HK.out HV.out hb1' HJ2.out.1 HJ2.out.2 hw2
  have HW1 := Lib.hid hw1
  have HW2 := Lib.hid hw2
  have wi2 : (Lit.int .i64 i2).wf = true := by have := HI2.out.1; unfold Lit.wf; rw [Bool.and_eq_true, decide_eq_true_eq, decide_eq_true_eq, show IntKind.i64.min = -9223372036854775808 from by decide, show IntKind.i64.max = 9223372036854775807 from by decide]; omega
  have wj2 : (Lit.int .i64 j2).wf = true := by have := HJ2.out.1; unfold Lit.wf; rw [Bool.and_eq_true, decide_eq_true_eq, decide_eq_true_eq, show IntKind.i64.min = -9223372036854775808 from by decide, show IntKind.i64.max = 9223372036854775807 from by decide]; omega
  clear hw1 hw2
  go_wp2_with fail
  refine (where_is p n d v e a i2 s l f1 hD.out hV.out hE.out wi2 HW1.out _).mono ?_
  rintro eE W4 ⟨rfl, hg4⟩
  have hb4 : Below w.heap.size w W4 := (show Below w.heap.size w _ by go_grown).trans (hg4.mono (by first | omega | go_size))
  obtain ⟨hc4, hf4⟩ := bcell hg4
  have hs4 := hg4.size
  try simp only [World.size_alloc, World.size_setCell, World.size_drew] at hs4
  have hl4_0_0 : W4.cell? ⟨w.heap.size, 0, none⟩ = some (.bool p) := (hc4 _ _ (by first | omega | go_size)).trans (by first | (with_reducible assumption) | go_cell)
  have hz4_0_0 : W4.frozen? ⟨w.heap.size, 0, none⟩ = false := (hf4 _ _ (by first | omega | go_size)).trans (by first | (with_reducible assumption) | (go_simp; done) | (simp [*]; done))
  have hl4_0_1 : W4.cell? ⟨w.heap.size, 1, none⟩ = some (.int .i64 n) := (hc4 _ _ (by first | omega | go_size)).trans (by first | (with_reducible assumption) | go_cell)
  have hz4_0_1 : W4.frozen? ⟨w.heap.size, 1, none⟩ = false := (hf4 _ _ (by first | omega | go_size)).trans (by first | (with_reducible assumption) | (go_simp; done) | (simp [*]; done))
  have hl4_0_2 : W4.cell? ⟨w.heap.size, 2, none⟩ = some (.int .u64 d) := (hc4 _ _ (by first | omega | go_size)).trans (by first | (with_reducible assumption) | go_cell)
  have hz4_0_2 : W4.frozen? ⟨w.heap.size, 2, none⟩ = false := (hf4 _ _ (by first | omega | go_size)).trans (by first | (with_reducible assumption) | (go_simp; done) | (simp [*]; done))
  have hl4_0_3 : W4.cell? ⟨w.heap.size, 3, none⟩ = some (.int .u64 v) := (hc4 _ _ (by first | omega | go_size)).trans (by first | (with_reducible assumption) | go_cell)
  have hz4_0_3 : W4.frozen? ⟨w.heap.size, 3, none⟩ = false := (hf4 _ _ (by first | omega | go_size)).trans (by first | (with_reducible assumption) | (go_simp; done) | (simp [*]; done))
  have hl4_0_4 : W4.cell? ⟨w.heap.size, 4, none⟩ = some (.int .u64 e) := (hc4 _ _ (by first | omega | go_size)).trans (by first | (with_reducible assumption) | go_cell)
  have hz4_0_4 : W4.frozen? ⟨w.heap.size, 4, none⟩ = false := (hf4 _ _ (by first | omega | go_size)).trans (by first | (with_reducible assumption) | (go_simp; done) | (simp [*]; done))
  have hk4_0 : w.heap.size < W4.heap.size := by omega
  clear hg4 hc4 hf4
  go_wp2_with fail
  refine (where_is p n d v e b j2 t m f2 hD.out hV.out hE.out wj2 HW2.out _).mono ?_
  rintro eE W5 ⟨rfl, hg5⟩
  have hb5 : Below w.heap.size w W5 := (show Below w.heap.size w _ by go_grown).trans (hg5.mono (by first | omega | go_size))
  obtain ⟨hc5, hf5⟩ := bcell hg5
  have hs5 := hg5.size
  try simp only [World.size_alloc, World.size_setCell, World.size_drew] at hs5
  have hl5_0_0 : W5.cell? ⟨w.heap.size, 0, none⟩ = some (.bool p) := (hc5 _ _ (by first | omega | go_size)).trans (by first | (with_reducible assumption) | go_cell)
  have hz5_0_0 : W5.frozen? ⟨w.heap.size, 0, none⟩ = false := (hf5 _ _ (by first | omega | go_size)).trans (by first | (with_reducible assumption) | (go_simp; done) | (simp [*]; done))
  have hl5_0_1 : W5.cell? ⟨w.heap.size, 1, none⟩ = some (.int .i64 n) := (hc5 _ _ (by first | omega | go_size)).trans (by first | (with_reducible assumption) | go_cell)
  have hz5_0_1 : W5.frozen? ⟨w.heap.size, 1, none⟩ = false := (hf5 _ _ (by first | omega | go_size)).trans (by first | (with_reducible assumption) | (go_simp; done) | (simp [*]; done))
  have hl5_0_2 : W5.cell? ⟨w.heap.size, 2, none⟩ = some (.int .u64 d) := (hc5 _ _ (by first | omega | go_size)).trans (by first | (with_reducible assumption) | go_cell)
  have hz5_0_2 : W5.frozen? ⟨w.heap.size, 2, none⟩ = false := (hf5 _ _ (by first | omega | go_size)).trans (by first | (with_reducible assumption) | (go_simp; done) | (simp [*]; done))
  have hl5_0_3 : W5.cell? ⟨w.heap.size, 3, none⟩ = some (.int .u64 v) := (hc5 _ _ (by first | omega | go_size)).trans (by first | (with_reducible assumption) | go_cell)
  have hz5_0_3 : W5.frozen? ⟨w.heap.size, 3, none⟩ = false := (hf5 _ _ (by first | omega | go_size)).trans (by first | (with_reducible assumption) | (go_simp; done) | (simp [*]; done))
  have hl5_0_4 : W5.cell? ⟨w.heap.size, 4, none⟩ = some (.int .u64 e) := (hc5 _ _ (by first | omega | go_size)).trans (by first | (with_reducible assumption) | go_cell)
  have hz5_0_4 : W5.frozen? ⟨w.heap.size, 4, none⟩ = false := (hf5 _ _ (by first | omega | go_size)).trans (by first | (with_reducible assumption) | (go_simp; done) | (simp [*]; done))
  have hk5_0 : w.heap.size < W5.heap.size := by omega
  clear hg5 hc5 hf5
  go_wp2_with fail
  rcases C1 with ⟨_, _, qa, ka', es, el⟩ | ⟨_, _, qa, sq, ka', es, el⟩ | ⟨qa, sq⟩
  · rcases C2 with ⟨_, _, qb, kb', et, em⟩ | ⟨_, _, qb, sr, kb', et, em⟩ | ⟨qb, sr⟩
    · have ga : (a == 1) = true := by rw [qa]; rfl
      have gb : (b == 1) = true := by rw [qb]; rfl
      obtain ⟨s2, t2, q1, q2, F⟩ := facts HK.out HP.out HV.out HA.out HB.out HI2.out HJ2.out ka' kb' es el et em
      obtain ⟨⟨l0, l1, l2⟩, ⟨m0, m1, m2⟩, u1, u2, ⟨w1, w2⟩, ⟨w3, w4⟩, o1, o2, E⟩ := F
      have l3 : IntKind.u64.wrap l = l := by rw [IntKind.wrap_u64]; omega
      have m3 : IntKind.u64.wrap m = m := by rw [IntKind.wrap_u64]; omega
      have HEE := Lib.hid E
      clear E
      clear es el
      clear et em
      refine Lib.wp_region_class (Lib.Held w _ [(w.heap.size, 0, (.bool p : Value)), (w.heap.size, 1, (.int .i64 n : Value)), (w.heap.size, 2, (.int .u64 d : Value)), (w.heap.size, 3, (.int .u64 v : Value)), (w.heap.size, 4, (.int .u64 e : Value))]) (by kernel_rfl) (by kernel_rfl) ⟨by go_grown, Below.refl _ _, ⟨by first | omega | go_size, by first | go_cell | (simp [*]; done), by first | (with_reducible assumption) | (go_simp; done) | (simp [*]; done)⟩, ⟨by first | omega | go_size, by first | go_cell | (simp [*]; done), by first | (with_reducible assumption) | (go_simp; done) | (simp [*]; done)⟩, ⟨by first | omega | go_size, by first | go_cell | (simp [*]; done), by first | (with_reducible assumption) | (go_simp; done) | (simp [*]; done)⟩, ⟨by first | omega | go_size, by first | go_cell | (simp [*]; done), by first | (with_reducible assumption) | (go_simp; done) | (simp [*]; done)⟩, ⟨by first | omega | go_size, by first | go_cell | (simp [*]; done), by first | (with_reducible assumption) | (go_simp; done) | (simp [*]; done)⟩, trivial⟩ ?_
      repeat (first | go_big_quiet_step ((intro hq; first | rfl | (go_at_call 26; exact Lib.Held.same hq (closure_any _ _)) | (have hq' := hq; obtain ⟨hbq, heq, ⟨hkq_0, hlq_0, hzq_0⟩, ⟨hkq_1, hlq_1, hzq_1⟩, ⟨hkq_2, hlq_2, hzq_2⟩, ⟨hkq_3, hlq_3, hzq_3⟩, ⟨hkq_4, hlq_4, hzq_4⟩, _⟩ := hq'; go_simp; rfl))) | quiet_step ((intro hq; first | rfl | (go_at_call 26; exact Lib.Held.same hq (closure_any _ _)) | (have hq' := hq; obtain ⟨hbq, heq, ⟨hkq_0, hlq_0, hzq_0⟩, ⟨hkq_1, hlq_1, hzq_1⟩, ⟨hkq_2, hlq_2, hzq_2⟩, ⟨hkq_3, hlq_3, hzq_3⟩, ⟨hkq_4, hlq_4, hzq_4⟩, _⟩ := hq'; go_simp; rfl))))
      refine wpQuiet_nil ?_
      intro W6 hq6
      obtain ⟨hb6, he6, ⟨hk6_0, hl6_0, hz6_0⟩, ⟨hk6_1, hl6_1, hz6_1⟩, ⟨hk6_2, hl6_2, hz6_2⟩, ⟨hk6_3, hl6_3, hz6_3⟩, ⟨hk6_4, hl6_4, hz6_4⟩, _⟩ := hq6
      have hs6 := he6.size
      try simp only [World.size_alloc, World.size_setCell, World.size_drew] at hs6
      try simp only [sq]
      try simp only [sr]
      try simp only [Bool.bne_true, Bool.bne_false, Bool.true_bne, Bool.false_bne, Bool.not_true, Bool.not_false, bne_self_eq_false]
      go_wp2_with fail
      refine Lib.wp_region_class (Lib.Held w _ [(w.heap.size, 0, (.bool p : Value)), (w.heap.size, 1, (.int .i64 n : Value)), (w.heap.size, 2, (.int .u64 d : Value)), (w.heap.size, 3, (.int .u64 v : Value)), (w.heap.size, 4, (.int .u64 e : Value))]) (by kernel_rfl) (by kernel_rfl) ⟨by go_grown, Below.refl _ _, ⟨by first | omega | go_size, by first | go_cell | (simp [*]; done), by first | (with_reducible assumption) | (go_simp; done) | (simp [*]; done)⟩, ⟨by first | omega | go_size, by first | go_cell | (simp [*]; done), by first | (with_reducible assumption) | (go_simp; done) | (simp [*]; done)⟩, ⟨by first | omega | go_size, by first | go_cell | (simp [*]; done), by first | (with_reducible assumption) | (go_simp; done) | (simp [*]; done)⟩, ⟨by first | omega | go_size, by first | go_cell | (simp [*]; done), by first | (with_reducible assumption) | (go_simp; done) | (simp [*]; done)⟩, ⟨by first | omega | go_size, by first | go_cell | (simp [*]; done), by first | (with_reducible assumption) | (go_simp; done) | (simp [*]; done)⟩, trivial⟩ ?_
      repeat (first | go_big_quiet_step ((intro hq; first | rfl | (go_at_call 14; exact Lib.Held.call hq (over_is p n d v e _ 1 true hD.out hV.out hE.out (by assumption) one_in (by assumption) _)) | (have hq' := hq; obtain ⟨hbq, heq, ⟨hkq_0, hlq_0, hzq_0⟩, ⟨hkq_1, hlq_1, hzq_1⟩, ⟨hkq_2, hlq_2, hzq_2⟩, ⟨hkq_3, hlq_3, hzq_3⟩, ⟨hkq_4, hlq_4, hzq_4⟩, _⟩ := hq'; go_simp; rfl))) | quiet_step ((intro hq; first | rfl | (go_at_call 14; exact Lib.Held.call hq (over_is p n d v e _ 1 true hD.out hV.out hE.out (by assumption) one_in (by assumption) _)) | (have hq' := hq; obtain ⟨hbq, heq, ⟨hkq_0, hlq_0, hzq_0⟩, ⟨hkq_1, hlq_1, hzq_1⟩, ⟨hkq_2, hlq_2, hzq_2⟩, ⟨hkq_3, hlq_3, hzq_3⟩, ⟨hkq_4, hlq_4, hzq_4⟩, _⟩ := hq'; go_simp; rfl))))
      refine wpQuiet_nil ?_
      intro W7 hq7
      obtain ⟨hb7, he7, ⟨hk7_0, hl7_0, hz7_0⟩, ⟨hk7_1, hl7_1, hz7_1⟩, ⟨hk7_2, hl7_2, hz7_2⟩, ⟨hk7_3, hl7_3, hz7_3⟩, ⟨hk7_4, hl7_4, hz7_4⟩, _⟩ := hq7
      have hs7 := he7.size
      try simp only [World.size_alloc, World.size_setCell, World.size_drew] at hs7
      by_cases x1 : s2 < t
      · by_cases x2 : a = b
        · by_cases x3 : i2 = j2
          · exact absurd (HEE.out.1 (.inl x1)) (by omega)
          · have y2 : (a != b) = false := by simp [x2]
            have y3 : (i2 != j2) = true := by simp [x3]
            first | (exfalso; omega) | (go_wp2_with fail; done) | (go_wp2_with fail; go_ret; exact ⟨rfl, by go_grown⟩)
        · have y2 : (a != b) = true := by simp [x2]
          first | (exfalso; omega) | (go_wp2_with fail; done) | (go_wp2_with fail; go_ret; exact ⟨rfl, by go_grown⟩)
      · by_cases x4 : t2 < s
        · by_cases x2 : a = b
          · by_cases x3 : i2 = j2
            · exact absurd (HEE.out.1 (.inr x4)) (by omega)
            · have y2 : (a != b) = false := by simp [x2]
              have y3 : (i2 != j2) = true := by simp [x3]
              first | (exfalso; omega) | (go_wp2_with fail; done) | (go_wp2_with fail; go_ret; exact ⟨rfl, by go_grown⟩)
          · have y2 : (a != b) = true := by simp [x2]
            first | (exfalso; omega) | (go_wp2_with fail; done) | (go_wp2_with fail; go_ret; exact ⟨rfl, by go_grown⟩)
        · by_cases x2 : a = b
          · by_cases x3 : i2 = j2
            · have y2 : (a != b) = false := by simp [x2]
              have y3 : (i2 != j2) = false := by simp [x3]
              first | (exfalso; omega) | (go_wp2_with fail; done) | (go_wp2_with fail; go_ret; exact ⟨rfl, by go_grown⟩)
            · exact absurd (HEE.out.2 (.inr x3)) (by omega)
          · exact absurd (HEE.out.2 (.inl x2)) (by omega)
    · have ga : (a == 1) = true := by rw [qa]; rfl
      have gb : (b == 1) = false := by simpa using qb
      have sr2 : (splitB b == p) = !(splitB b != p) := by generalize splitB b = q; cases q <;> cases p <;> rfl
      rw [sr] at sr2
      try rw [Bool.not_true] at sr2
      try rw [Bool.not_false] at sr2
      obtain ⟨s2, t2, q1, q2, F⟩ := facts HK.out HP.out HV.out HA.out HB.out HI2.out HJ2.out ka' kb' es el et em
      obtain ⟨⟨l0, l1, l2⟩, ⟨m0, m1, m2⟩, u1, u2, ⟨w1, w2⟩, ⟨w3, w4⟩, o1, o2, E⟩ := F
      have l3 : IntKind.u64.wrap l = l := by rw [IntKind.wrap_u64]; omega
      have m3 : IntKind.u64.wrap m = m := by rw [IntKind.wrap_u64]; omega
      have HEE := Lib.hid E
      clear E
      clear es el
      clear et em
      refine Lib.wp_region_class (Lib.Held w _ [(w.heap.size, 0, (.bool p : Value)), (w.heap.size, 1, (.int .i64 n : Value)), (w.heap.size, 2, (.int .u64 d : Value)), (w.heap.size, 3, (.int .u64 v : Value)), (w.heap.size, 4, (.int .u64 e : Value))]) (by kernel_rfl) (by kernel_rfl) ⟨by go_grown, Below.refl _ _, ⟨by first | omega | go_size, by first | go_cell | (simp [*]; done), by first | (with_reducible assumption) | (go_simp; done) | (simp [*]; done)⟩, ⟨by first | omega | go_size, by first | go_cell | (simp [*]; done), by first | (with_reducible assumption) | (go_simp; done) | (simp [*]; done)⟩, ⟨by first | omega | go_size, by first | go_cell | (simp [*]; done), by first | (with_reducible assumption) | (go_simp; done) | (simp [*]; done)⟩, ⟨by first | omega | go_size, by first | go_cell | (simp [*]; done), by first | (with_reducible assumption) | (go_simp; done) | (simp [*]; done)⟩, ⟨by first | omega | go_size, by first | go_cell | (simp [*]; done), by first | (with_reducible assumption) | (go_simp; done) | (simp [*]; done)⟩, trivial⟩ ?_
      repeat (first | go_big_quiet_step ((intro hq; first | rfl | (go_at_call 26; exact Lib.Held.same hq (closure_any _ _)) | (have hq' := hq; obtain ⟨hbq, heq, ⟨hkq_0, hlq_0, hzq_0⟩, ⟨hkq_1, hlq_1, hzq_1⟩, ⟨hkq_2, hlq_2, hzq_2⟩, ⟨hkq_3, hlq_3, hzq_3⟩, ⟨hkq_4, hlq_4, hzq_4⟩, _⟩ := hq'; go_simp; rfl))) | quiet_step ((intro hq; first | rfl | (go_at_call 26; exact Lib.Held.same hq (closure_any _ _)) | (have hq' := hq; obtain ⟨hbq, heq, ⟨hkq_0, hlq_0, hzq_0⟩, ⟨hkq_1, hlq_1, hzq_1⟩, ⟨hkq_2, hlq_2, hzq_2⟩, ⟨hkq_3, hlq_3, hzq_3⟩, ⟨hkq_4, hlq_4, hzq_4⟩, _⟩ := hq'; go_simp; rfl))))
      refine wpQuiet_nil ?_
      intro W6 hq6
      obtain ⟨hb6, he6, ⟨hk6_0, hl6_0, hz6_0⟩, ⟨hk6_1, hl6_1, hz6_1⟩, ⟨hk6_2, hl6_2, hz6_2⟩, ⟨hk6_3, hl6_3, hz6_3⟩, ⟨hk6_4, hl6_4, hz6_4⟩, _⟩ := hq6
      have hs6 := he6.size
      try simp only [World.size_alloc, World.size_setCell, World.size_drew] at hs6
      try simp only [sq]
      try simp only [sr]
      try simp only [Bool.bne_true, Bool.bne_false, Bool.true_bne, Bool.false_bne, Bool.not_true, Bool.not_false, bne_self_eq_false]
      go_wp2_with fail
      refine Lib.wp_region_class (Lib.Held w _ [(w.heap.size, 0, (.bool p : Value)), (w.heap.size, 1, (.int .i64 n : Value)), (w.heap.size, 2, (.int .u64 d : Value)), (w.heap.size, 3, (.int .u64 v : Value)), (w.heap.size, 4, (.int .u64 e : Value))]) (by kernel_rfl) (by kernel_rfl) ⟨by go_grown, Below.refl _ _, ⟨by first | omega | go_size, by first | go_cell | (simp [*]; done), by first | (with_reducible assumption) | (go_simp; done) | (simp [*]; done)⟩, ⟨by first | omega | go_size, by first | go_cell | (simp [*]; done), by first | (with_reducible assumption) | (go_simp; done) | (simp [*]; done)⟩, ⟨by first | omega | go_size, by first | go_cell | (simp [*]; done), by first | (with_reducible assumption) | (go_simp; done) | (simp [*]; done)⟩, ⟨by first | omega | go_size, by first | go_cell | (simp [*]; done), by first | (with_reducible assumption) | (go_simp; done) | (simp [*]; done)⟩, ⟨by first | omega | go_size, by first | go_cell | (simp [*]; done), by first | (with_reducible assumption) | (go_simp; done) | (simp [*]; done)⟩, trivial⟩ ?_
      repeat (first | go_big_quiet_step ((intro hq; first | rfl | (go_at_call 14; exact Lib.Held.call hq (over_is p n d v e _ 1 true hD.out hV.out hE.out (by assumption) one_in (by assumption) _)) | (have hq' := hq; obtain ⟨hbq, heq, ⟨hkq_0, hlq_0, hzq_0⟩, ⟨hkq_1, hlq_1, hzq_1⟩, ⟨hkq_2, hlq_2, hzq_2⟩, ⟨hkq_3, hlq_3, hzq_3⟩, ⟨hkq_4, hlq_4, hzq_4⟩, _⟩ := hq'; go_simp; rfl))) | quiet_step ((intro hq; first | rfl | (go_at_call 14; exact Lib.Held.call hq (over_is p n d v e _ 1 true hD.out hV.out hE.out (by assumption) one_in (by assumption) _)) | (have hq' := hq; obtain ⟨hbq, heq, ⟨hkq_0, hlq_0, hzq_0⟩, ⟨hkq_1, hlq_1, hzq_1⟩, ⟨hkq_2, hlq_2, hzq_2⟩, ⟨hkq_3, hlq_3, hzq_3⟩, ⟨hkq_4, hlq_4, hzq_4⟩, _⟩ := hq'; go_simp; rfl))))
      refine wpQuiet_nil ?_
      intro W7 hq7
      obtain ⟨hb7, he7, ⟨hk7_0, hl7_0, hz7_0⟩, ⟨hk7_1, hl7_1, hz7_1⟩, ⟨hk7_2, hl7_2, hz7_2⟩, ⟨hk7_3, hl7_3, hz7_3⟩, ⟨hk7_4, hl7_4, hz7_4⟩, _⟩ := hq7
      have hs7 := he7.size
      try simp only [World.size_alloc, World.size_setCell, World.size_drew] at hs7
      by_cases x1 : s2 < t
      · by_cases x2 : a = b
        · by_cases x3 : i2 = j2
          · exact absurd (HEE.out.1 (.inl x1)) (by omega)
          · have y2 : (a != b) = false := by simp [x2]
            have y3 : (i2 != j2) = true := by simp [x3]
            first | (exfalso; omega) | (go_wp2_with fail; done) | (go_wp2_with fail; go_ret; exact ⟨rfl, by go_grown⟩)
        · have y2 : (a != b) = true := by simp [x2]
          first | (exfalso; omega) | (go_wp2_with fail; done) | (go_wp2_with fail; go_ret; exact ⟨rfl, by go_grown⟩)
      · by_cases x4 : t2 < s
        · by_cases x2 : a = b
          · by_cases x3 : i2 = j2
            · exact absurd (HEE.out.1 (.inr x4)) (by omega)
            · have y2 : (a != b) = false := by simp [x2]
              have y3 : (i2 != j2) = true := by simp [x3]
              first | (exfalso; omega) | (go_wp2_with fail; done) | (go_wp2_with fail; go_ret; exact ⟨rfl, by go_grown⟩)
          · have y2 : (a != b) = true := by simp [x2]
            first | (exfalso; omega) | (go_wp2_with fail; done) | (go_wp2_with fail; go_ret; exact ⟨rfl, by go_grown⟩)
        · by_cases x2 : a = b
          · by_cases x3 : i2 = j2
            · have y2 : (a != b) = false := by simp [x2]
              have y3 : (i2 != j2) = false := by simp [x3]
              first | (exfalso; omega) | (go_wp2_with fail; done) | (go_wp2_with fail; go_ret; exact ⟨rfl, by go_grown⟩)
            · exact absurd (HEE.out.2 (.inr x3)) (by omega)
          · exact absurd (HEE.out.2 (.inl x2)) (by omega)
    · have ga : (a == 1) = true := by rw [qa]; rfl
      have gb : (b == 1) = false := by simpa using qb
      have sr2 : (splitB b == p) = !(splitB b != p) := by generalize splitB b = q; cases q <;> cases p <;> rfl
      rw [sr] at sr2
      try rw [Bool.not_true] at sr2
      try rw [Bool.not_false] at sr2
      clear es el
      refine Lib.wp_region_class (Lib.Held w _ [(w.heap.size, 0, (.bool p : Value)), (w.heap.size, 1, (.int .i64 n : Value)), (w.heap.size, 2, (.int .u64 d : Value)), (w.heap.size, 3, (.int .u64 v : Value)), (w.heap.size, 4, (.int .u64 e : Value))]) (by kernel_rfl) (by kernel_rfl) ⟨by go_grown, Below.refl _ _, ⟨by first | omega | go_size, by first | go_cell | (simp [*]; done), by first | (with_reducible assumption) | (go_simp; done) | (simp [*]; done)⟩, ⟨by first | omega | go_size, by first | go_cell | (simp [*]; done), by first | (with_reducible assumption) | (go_simp; done) | (simp [*]; done)⟩, ⟨by first | omega | go_size, by first | go_cell | (simp [*]; done), by first | (with_reducible assumption) | (go_simp; done) | (simp [*]; done)⟩, ⟨by first | omega | go_size, by first | go_cell | (simp [*]; done), by first | (with_reducible assumption) | (go_simp; done) | (simp [*]; done)⟩, ⟨by first | omega | go_size, by first | go_cell | (simp [*]; done), by first | (with_reducible assumption) | (go_simp; done) | (simp [*]; done)⟩, trivial⟩ ?_
      repeat (first | go_big_quiet_step ((intro hq; first | rfl | (go_at_call 26; exact Lib.Held.same hq (closure_any _ _)) | (have hq' := hq; obtain ⟨hbq, heq, ⟨hkq_0, hlq_0, hzq_0⟩, ⟨hkq_1, hlq_1, hzq_1⟩, ⟨hkq_2, hlq_2, hzq_2⟩, ⟨hkq_3, hlq_3, hzq_3⟩, ⟨hkq_4, hlq_4, hzq_4⟩, _⟩ := hq'; go_simp; rfl))) | quiet_step ((intro hq; first | rfl | (go_at_call 26; exact Lib.Held.same hq (closure_any _ _)) | (have hq' := hq; obtain ⟨hbq, heq, ⟨hkq_0, hlq_0, hzq_0⟩, ⟨hkq_1, hlq_1, hzq_1⟩, ⟨hkq_2, hlq_2, hzq_2⟩, ⟨hkq_3, hlq_3, hzq_3⟩, ⟨hkq_4, hlq_4, hzq_4⟩, _⟩ := hq'; go_simp; rfl))))
      refine wpQuiet_nil ?_
      intro W6 hq6
      obtain ⟨hb6, he6, ⟨hk6_0, hl6_0, hz6_0⟩, ⟨hk6_1, hl6_1, hz6_1⟩, ⟨hk6_2, hl6_2, hz6_2⟩, ⟨hk6_3, hl6_3, hz6_3⟩, ⟨hk6_4, hl6_4, hz6_4⟩, _⟩ := hq6
      have hs6 := he6.size
      try simp only [World.size_alloc, World.size_setCell, World.size_drew] at hs6
      try simp only [sq]
      try simp only [sr]
      try simp only [Bool.bne_true, Bool.bne_false, Bool.true_bne, Bool.false_bne, Bool.not_true, Bool.not_false, bne_self_eq_false]
      first | (exfalso; omega) | (go_wp2_with fail; done) | (go_wp2_with fail; go_ret; exact ⟨rfl, by go_grown⟩)
  · rcases C2 with ⟨_, _, qb, kb', et, em⟩ | ⟨_, _, qb, sr, kb', et, em⟩ | ⟨qb, sr⟩
    · have ga : (a == 1) = false := by simpa using qa
      have sq2 : (splitB a == p) = !(splitB a != p) := by generalize splitB a = q; cases q <;> cases p <;> rfl
      rw [sq] at sq2
      try rw [Bool.not_true] at sq2
      try rw [Bool.not_false] at sq2
      have gb : (b == 1) = true := by rw [qb]; rfl
      obtain ⟨s2, t2, q1, q2, F⟩ := facts HK.out HP.out HV.out HA.out HB.out HI2.out HJ2.out ka' kb' es el et em
      obtain ⟨⟨l0, l1, l2⟩, ⟨m0, m1, m2⟩, u1, u2, ⟨w1, w2⟩, ⟨w3, w4⟩, o1, o2, E⟩ := F
      have l3 : IntKind.u64.wrap l = l := by rw [IntKind.wrap_u64]; omega
      have m3 : IntKind.u64.wrap m = m := by rw [IntKind.wrap_u64]; omega
      have HEE := Lib.hid E
      clear E
      clear es el
      clear et em
      refine Lib.wp_region_class (Lib.Held w _ [(w.heap.size, 0, (.bool p : Value)), (w.heap.size, 1, (.int .i64 n : Value)), (w.heap.size, 2, (.int .u64 d : Value)), (w.heap.size, 3, (.int .u64 v : Value)), (w.heap.size, 4, (.int .u64 e : Value))]) (by kernel_rfl) (by kernel_rfl) ⟨by go_grown, Below.refl _ _, ⟨by first | omega | go_size, by first | go_cell | (simp [*]; done), by first | (with_reducible assumption) | (go_simp; done) | (simp [*]; done)⟩, ⟨by first | omega | go_size, by first | go_cell | (simp [*]; done), by first | (with_reducible assumption) | (go_simp; done) | (simp [*]; done)⟩, ⟨by first | omega | go_size, by first | go_cell | (simp [*]; done), by first | (with_reducible assumption) | (go_simp; done) | (simp [*]; done)⟩, ⟨by first | omega | go_size, by first | go_cell | (simp [*]; done), by first | (with_reducible assumption) | (go_simp; done) | (simp [*]; done)⟩, ⟨by first | omega | go_size, by first | go_cell | (simp [*]; done), by first | (with_reducible assumption) | (go_simp; done) | (simp [*]; done)⟩, trivial⟩ ?_
      repeat (first | go_big_quiet_step ((intro hq; first | rfl | (go_at_call 26; exact Lib.Held.same hq (closure_any _ _)) | (have hq' := hq; obtain ⟨hbq, heq, ⟨hkq_0, hlq_0, hzq_0⟩, ⟨hkq_1, hlq_1, hzq_1⟩, ⟨hkq_2, hlq_2, hzq_2⟩, ⟨hkq_3, hlq_3, hzq_3⟩, ⟨hkq_4, hlq_4, hzq_4⟩, _⟩ := hq'; go_simp; rfl))) | quiet_step ((intro hq; first | rfl | (go_at_call 26; exact Lib.Held.same hq (closure_any _ _)) | (have hq' := hq; obtain ⟨hbq, heq, ⟨hkq_0, hlq_0, hzq_0⟩, ⟨hkq_1, hlq_1, hzq_1⟩, ⟨hkq_2, hlq_2, hzq_2⟩, ⟨hkq_3, hlq_3, hzq_3⟩, ⟨hkq_4, hlq_4, hzq_4⟩, _⟩ := hq'; go_simp; rfl))))
      refine wpQuiet_nil ?_
      intro W6 hq6
      obtain ⟨hb6, he6, ⟨hk6_0, hl6_0, hz6_0⟩, ⟨hk6_1, hl6_1, hz6_1⟩, ⟨hk6_2, hl6_2, hz6_2⟩, ⟨hk6_3, hl6_3, hz6_3⟩, ⟨hk6_4, hl6_4, hz6_4⟩, _⟩ := hq6
      have hs6 := he6.size
      try simp only [World.size_alloc, World.size_setCell, World.size_drew] at hs6
      try simp only [sq]
      try simp only [sr]
      try simp only [Bool.bne_true, Bool.bne_false, Bool.true_bne, Bool.false_bne, Bool.not_true, Bool.not_false, bne_self_eq_false]
      go_wp2_with fail
      refine Lib.wp_region_class (Lib.Held w _ [(w.heap.size, 0, (.bool p : Value)), (w.heap.size, 1, (.int .i64 n : Value)), (w.heap.size, 2, (.int .u64 d : Value)), (w.heap.size, 3, (.int .u64 v : Value)), (w.heap.size, 4, (.int .u64 e : Value))]) (by kernel_rfl) (by kernel_rfl) ⟨by go_grown, Below.refl _ _, ⟨by first | omega | go_size, by first | go_cell | (simp [*]; done), by first | (with_reducible assumption) | (go_simp; done) | (simp [*]; done)⟩, ⟨by first | omega | go_size, by first | go_cell | (simp [*]; done), by first | (with_reducible assumption) | (go_simp; done) | (simp [*]; done)⟩, ⟨by first | omega | go_size, by first | go_cell | (simp [*]; done), by first | (with_reducible assumption) | (go_simp; done) | (simp [*]; done)⟩, ⟨by first | omega | go_size, by first | go_cell | (simp [*]; done), by first | (with_reducible assumption) | (go_simp; done) | (simp [*]; done)⟩, ⟨by first | omega | go_size, by first | go_cell | (simp [*]; done), by first | (with_reducible assumption) | (go_simp; done) | (simp [*]; done)⟩, trivial⟩ ?_
      repeat (first | go_big_quiet_step ((intro hq; first | rfl | (go_at_call 14; exact Lib.Held.call hq (over_is p n d v e _ 1 true hD.out hV.out hE.out (by assumption) one_in (by assumption) _)) | (have hq' := hq; obtain ⟨hbq, heq, ⟨hkq_0, hlq_0, hzq_0⟩, ⟨hkq_1, hlq_1, hzq_1⟩, ⟨hkq_2, hlq_2, hzq_2⟩, ⟨hkq_3, hlq_3, hzq_3⟩, ⟨hkq_4, hlq_4, hzq_4⟩, _⟩ := hq'; go_simp; rfl))) | quiet_step ((intro hq; first | rfl | (go_at_call 14; exact Lib.Held.call hq (over_is p n d v e _ 1 true hD.out hV.out hE.out (by assumption) one_in (by assumption) _)) | (have hq' := hq; obtain ⟨hbq, heq, ⟨hkq_0, hlq_0, hzq_0⟩, ⟨hkq_1, hlq_1, hzq_1⟩, ⟨hkq_2, hlq_2, hzq_2⟩, ⟨hkq_3, hlq_3, hzq_3⟩, ⟨hkq_4, hlq_4, hzq_4⟩, _⟩ := hq'; go_simp; rfl))))
      refine wpQuiet_nil ?_
      intro W7 hq7
      obtain ⟨hb7, he7, ⟨hk7_0, hl7_0, hz7_0⟩, ⟨hk7_1, hl7_1, hz7_1⟩, ⟨hk7_2, hl7_2, hz7_2⟩, ⟨hk7_3, hl7_3, hz7_3⟩, ⟨hk7_4, hl7_4, hz7_4⟩, _⟩ := hq7
      have hs7 := he7.size
      try simp only [World.size_alloc, World.size_setCell, World.size_drew] at hs7
      by_cases x1 : s2 < t
      · by_cases x2 : a = b
        · by_cases x3 : i2 = j2
          · exact absurd (HEE.out.1 (.inl x1)) (by omega)
          · have y2 : (a != b) = false := by simp [x2]
            have y3 : (i2 != j2) = true := by simp [x3]
            first | (exfalso; omega) | (go_wp2_with fail; done) | (go_wp2_with fail; go_ret; exact ⟨rfl, by go_grown⟩)
        · have y2 : (a != b) = true := by simp [x2]
          first | (exfalso; omega) | (go_wp2_with fail; done) | (go_wp2_with fail; go_ret; exact ⟨rfl, by go_grown⟩)
      · by_cases x4 : t2 < s
        · by_cases x2 : a = b
          · by_cases x3 : i2 = j2
            · exact absurd (HEE.out.1 (.inr x4)) (by omega)
            · have y2 : (a != b) = false := by simp [x2]
              have y3 : (i2 != j2) = true := by simp [x3]
              first | (exfalso; omega) | (go_wp2_with fail; done) | (go_wp2_with fail; go_ret; exact ⟨rfl, by go_grown⟩)
          · have y2 : (a != b) = true := by simp [x2]
            first | (exfalso; omega) | (go_wp2_with fail; done) | (go_wp2_with fail; go_ret; exact ⟨rfl, by go_grown⟩)
        · by_cases x2 : a = b
          · by_cases x3 : i2 = j2
            · have y2 : (a != b) = false := by simp [x2]
              have y3 : (i2 != j2) = false := by simp [x3]
              first | (exfalso; omega) | (go_wp2_with fail; done) | (go_wp2_with fail; go_ret; exact ⟨rfl, by go_grown⟩)
            · exact absurd (HEE.out.2 (.inr x3)) (by omega)
          · exact absurd (HEE.out.2 (.inl x2)) (by omega)
    · have ga : (a == 1) = false := by simpa using qa
      have sq2 : (splitB a == p) = !(splitB a != p) := by generalize splitB a = q; cases q <;> cases p <;> rfl
      rw [sq] at sq2
      try rw [Bool.not_true] at sq2
      try rw [Bool.not_false] at sq2
      have gb : (b == 1) = false := by simpa using qb
      have sr2 : (splitB b == p) = !(splitB b != p) := by generalize splitB b = q; cases q <;> cases p <;> rfl
      rw [sr] at sr2
      try rw [Bool.not_true] at sr2
      try rw [Bool.not_false] at sr2
      obtain ⟨s2, t2, q1, q2, F⟩ := facts HK.out HP.out HV.out HA.out HB.out HI2.out HJ2.out ka' kb' es el et em
      obtain ⟨⟨l0, l1, l2⟩, ⟨m0, m1, m2⟩, u1, u2, ⟨w1, w2⟩, ⟨w3, w4⟩, o1, o2, E⟩ := F
      have l3 : IntKind.u64.wrap l = l := by rw [IntKind.wrap_u64]; omega
      have m3 : IntKind.u64.wrap m = m := by rw [IntKind.wrap_u64]; omega
      have HEE := Lib.hid E
      clear E
      clear es el
      clear et em
      refine Lib.wp_region_class (Lib.Held w _ [(w.heap.size, 0, (.bool p : Value)), (w.heap.size, 1, (.int .i64 n : Value)), (w.heap.size, 2, (.int .u64 d : Value)), (w.heap.size, 3, (.int .u64 v : Value)), (w.heap.size, 4, (.int .u64 e : Value))]) (by kernel_rfl) (by kernel_rfl) ⟨by go_grown, Below.refl _ _, ⟨by first | omega | go_size, by first | go_cell | (simp [*]; done), by first | (with_reducible assumption) | (go_simp; done) | (simp [*]; done)⟩, ⟨by first | omega | go_size, by first | go_cell | (simp [*]; done), by first | (with_reducible assumption) | (go_simp; done) | (simp [*]; done)⟩, ⟨by first | omega | go_size, by first | go_cell | (simp [*]; done), by first | (with_reducible assumption) | (go_simp; done) | (simp [*]; done)⟩, ⟨by first | omega | go_size, by first | go_cell | (simp [*]; done), by first | (with_reducible assumption) | (go_simp; done) | (simp [*]; done)⟩, ⟨by first | omega | go_size, by first | go_cell | (simp [*]; done), by first | (with_reducible assumption) | (go_simp; done) | (simp [*]; done)⟩, trivial⟩ ?_
      repeat (first | go_big_quiet_step ((intro hq; first | rfl | (go_at_call 26; exact Lib.Held.same hq (closure_any _ _)) | (have hq' := hq; obtain ⟨hbq, heq, ⟨hkq_0, hlq_0, hzq_0⟩, ⟨hkq_1, hlq_1, hzq_1⟩, ⟨hkq_2, hlq_2, hzq_2⟩, ⟨hkq_3, hlq_3, hzq_3⟩, ⟨hkq_4, hlq_4, hzq_4⟩, _⟩ := hq'; go_simp; rfl))) | quiet_step ((intro hq; first | rfl | (go_at_call 26; exact Lib.Held.same hq (closure_any _ _)) | (have hq' := hq; obtain ⟨hbq, heq, ⟨hkq_0, hlq_0, hzq_0⟩, ⟨hkq_1, hlq_1, hzq_1⟩, ⟨hkq_2, hlq_2, hzq_2⟩, ⟨hkq_3, hlq_3, hzq_3⟩, ⟨hkq_4, hlq_4, hzq_4⟩, _⟩ := hq'; go_simp; rfl))))
      refine wpQuiet_nil ?_
      intro W6 hq6
      obtain ⟨hb6, he6, ⟨hk6_0, hl6_0, hz6_0⟩, ⟨hk6_1, hl6_1, hz6_1⟩, ⟨hk6_2, hl6_2, hz6_2⟩, ⟨hk6_3, hl6_3, hz6_3⟩, ⟨hk6_4, hl6_4, hz6_4⟩, _⟩ := hq6
      have hs6 := he6.size
      try simp only [World.size_alloc, World.size_setCell, World.size_drew] at hs6
      try simp only [sq]
      try simp only [sr]
      try simp only [Bool.bne_true, Bool.bne_false, Bool.true_bne, Bool.false_bne, Bool.not_true, Bool.not_false, bne_self_eq_false]
      go_wp2_with fail
      refine Lib.wp_region_class (Lib.Held w _ [(w.heap.size, 0, (.bool p : Value)), (w.heap.size, 1, (.int .i64 n : Value)), (w.heap.size, 2, (.int .u64 d : Value)), (w.heap.size, 3, (.int .u64 v : Value)), (w.heap.size, 4, (.int .u64 e : Value))]) (by kernel_rfl) (by kernel_rfl) ⟨by go_grown, Below.refl _ _, ⟨by first | omega | go_size, by first | go_cell | (simp [*]; done), by first | (with_reducible assumption) | (go_simp; done) | (simp [*]; done)⟩, ⟨by first | omega | go_size, by first | go_cell | (simp [*]; done), by first | (with_reducible assumption) | (go_simp; done) | (simp [*]; done)⟩, ⟨by first | omega | go_size, by first | go_cell | (simp [*]; done), by first | (with_reducible assumption) | (go_simp; done) | (simp [*]; done)⟩, ⟨by first | omega | go_size, by first | go_cell | (simp [*]; done), by first | (with_reducible assumption) | (go_simp; done) | (simp [*]; done)⟩, ⟨by first | omega | go_size, by first | go_cell | (simp [*]; done), by first | (with_reducible assumption) | (go_simp; done) | (simp [*]; done)⟩, trivial⟩ ?_
      repeat (first | go_big_quiet_step ((intro hq; first | rfl | (go_at_call 14; exact Lib.Held.call hq (over_is p n d v e _ 1 true hD.out hV.out hE.out (by assumption) one_in (by assumption) _)) | (have hq' := hq; obtain ⟨hbq, heq, ⟨hkq_0, hlq_0, hzq_0⟩, ⟨hkq_1, hlq_1, hzq_1⟩, ⟨hkq_2, hlq_2, hzq_2⟩, ⟨hkq_3, hlq_3, hzq_3⟩, ⟨hkq_4, hlq_4, hzq_4⟩, _⟩ := hq'; go_simp; rfl))) | quiet_step ((intro hq; first | rfl | (go_at_call 14; exact Lib.Held.call hq (over_is p n d v e _ 1 true hD.out hV.out hE.out (by assumption) one_in (by assumption) _)) | (have hq' := hq; obtain ⟨hbq, heq, ⟨hkq_0, hlq_0, hzq_0⟩, ⟨hkq_1, hlq_1, hzq_1⟩, ⟨hkq_2, hlq_2, hzq_2⟩, ⟨hkq_3, hlq_3, hzq_3⟩, ⟨hkq_4, hlq_4, hzq_4⟩, _⟩ := hq'; go_simp; rfl))))
      refine wpQuiet_nil ?_
      intro W7 hq7
      obtain ⟨hb7, he7, ⟨hk7_0, hl7_0, hz7_0⟩, ⟨hk7_1, hl7_1, hz7_1⟩, ⟨hk7_2, hl7_2, hz7_2⟩, ⟨hk7_3, hl7_3, hz7_3⟩, ⟨hk7_4, hl7_4, hz7_4⟩, _⟩ := hq7
      have hs7 := he7.size
      try simp only [World.size_alloc, World.size_setCell, World.size_drew] at hs7
      by_cases x1 : s2 < t
      · by_cases x2 : a = b
        · by_cases x3 : i2 = j2
          · exact absurd (HEE.out.1 (.inl x1)) (by omega)
          · have y2 : (a != b) = false := by simp [x2]
            have y3 : (i2 != j2) = true := by simp [x3]
            first | (exfalso; omega) | (go_wp2_with fail; done) | (go_wp2_with fail; go_ret; exact ⟨rfl, by go_grown⟩)
        · have y2 : (a != b) = true := by simp [x2]
          first | (exfalso; omega) | (go_wp2_with fail; done) | (go_wp2_with fail; go_ret; exact ⟨rfl, by go_grown⟩)
      · by_cases x4 : t2 < s
        · by_cases x2 : a = b
          · by_cases x3 : i2 = j2
            · exact absurd (HEE.out.1 (.inr x4)) (by omega)
            · have y2 : (a != b) = false := by simp [x2]
              have y3 : (i2 != j2) = true := by simp [x3]
              first | (exfalso; omega) | (go_wp2_with fail; done) | (go_wp2_with fail; go_ret; exact ⟨rfl, by go_grown⟩)
          · have y2 : (a != b) = true := by simp [x2]
            first | (exfalso; omega) | (go_wp2_with fail; done) | (go_wp2_with fail; go_ret; exact ⟨rfl, by go_grown⟩)
        · by_cases x2 : a = b
          · by_cases x3 : i2 = j2
            · have y2 : (a != b) = false := by simp [x2]
              have y3 : (i2 != j2) = false := by simp [x3]
              first | (exfalso; omega) | (go_wp2_with fail; done) | (go_wp2_with fail; go_ret; exact ⟨rfl, by go_grown⟩)
            · exact absurd (HEE.out.2 (.inr x3)) (by omega)
          · exact absurd (HEE.out.2 (.inl x2)) (by omega)
    · have ga : (a == 1) = false := by simpa using qa
      have sq2 : (splitB a == p) = !(splitB a != p) := by generalize splitB a = q; cases q <;> cases p <;> rfl
      rw [sq] at sq2
      try rw [Bool.not_true] at sq2
      try rw [Bool.not_false] at sq2
      have gb : (b == 1) = false := by simpa using qb
      have sr2 : (splitB b == p) = !(splitB b != p) := by generalize splitB b = q; cases q <;> cases p <;> rfl
      rw [sr] at sr2
      try rw [Bool.not_true] at sr2
      try rw [Bool.not_false] at sr2
      clear es el
      refine Lib.wp_region_class (Lib.Held w _ [(w.heap.size, 0, (.bool p : Value)), (w.heap.size, 1, (.int .i64 n : Value)), (w.heap.size, 2, (.int .u64 d : Value)), (w.heap.size, 3, (.int .u64 v : Value)), (w.heap.size, 4, (.int .u64 e : Value))]) (by kernel_rfl) (by kernel_rfl) ⟨by go_grown, Below.refl _ _, ⟨by first | omega | go_size, by first | go_cell | (simp [*]; done), by first | (with_reducible assumption) | (go_simp; done) | (simp [*]; done)⟩, ⟨by first | omega | go_size, by first | go_cell | (simp [*]; done), by first | (with_reducible assumption) | (go_simp; done) | (simp [*]; done)⟩, ⟨by first | omega | go_size, by first | go_cell | (simp [*]; done), by first | (with_reducible assumption) | (go_simp; done) | (simp [*]; done)⟩, ⟨by first | omega | go_size, by first | go_cell | (simp [*]; done), by first | (with_reducible assumption) | (go_simp; done) | (simp [*]; done)⟩, ⟨by first | omega | go_size, by first | go_cell | (simp [*]; done), by first | (with_reducible assumption) | (go_simp; done) | (simp [*]; done)⟩, trivial⟩ ?_
      repeat (first | go_big_quiet_step ((intro hq; first | rfl | (go_at_call 26; exact Lib.Held.same hq (closure_any _ _)) | (have hq' := hq; obtain ⟨hbq, heq, ⟨hkq_0, hlq_0, hzq_0⟩, ⟨hkq_1, hlq_1, hzq_1⟩, ⟨hkq_2, hlq_2, hzq_2⟩, ⟨hkq_3, hlq_3, hzq_3⟩, ⟨hkq_4, hlq_4, hzq_4⟩, _⟩ := hq'; go_simp; rfl))) | quiet_step ((intro hq; first | rfl | (go_at_call 26; exact Lib.Held.same hq (closure_any _ _)) | (have hq' := hq; obtain ⟨hbq, heq, ⟨hkq_0, hlq_0, hzq_0⟩, ⟨hkq_1, hlq_1, hzq_1⟩, ⟨hkq_2, hlq_2, hzq_2⟩, ⟨hkq_3, hlq_3, hzq_3⟩, ⟨hkq_4, hlq_4, hzq_4⟩, _⟩ := hq'; go_simp; rfl))))
      refine wpQuiet_nil ?_
      intro W6 hq6
      obtain ⟨hb6, he6, ⟨hk6_0, hl6_0, hz6_0⟩, ⟨hk6_1, hl6_1, hz6_1⟩, ⟨hk6_2, hl6_2, hz6_2⟩, ⟨hk6_3, hl6_3, hz6_3⟩, ⟨hk6_4, hl6_4, hz6_4⟩, _⟩ := hq6
      have hs6 := he6.size
      try simp only [World.size_alloc, World.size_setCell, World.size_drew] at hs6
      try simp only [sq]
      try simp only [sr]
      try simp only [Bool.bne_true, Bool.bne_false, Bool.true_bne, Bool.false_bne, Bool.not_true, Bool.not_false, bne_self_eq_false]
      first | (exfalso; omega) | (go_wp2_with fail; done) | (go_wp2_with fail; go_ret; exact ⟨rfl, by go_grown⟩)
  · rcases C2 with ⟨_, _, qb, kb', et, em⟩ | ⟨_, _, qb, sr, kb', et, em⟩ | ⟨qb, sr⟩
    · have ga : (a == 1) = false := by simpa using qa
      have sq2 : (splitB a == p) = !(splitB a != p) := by generalize splitB a = q; cases q <;> cases p <;> rfl
      rw [sq] at sq2
      try rw [Bool.not_true] at sq2
      try rw [Bool.not_false] at sq2
      have gb : (b == 1) = true := by rw [qb]; rfl
      clear et em
      refine Lib.wp_region_class (Lib.Held w _ [(w.heap.size, 0, (.bool p : Value)), (w.heap.size, 1, (.int .i64 n : Value)), (w.heap.size, 2, (.int .u64 d : Value)), (w.heap.size, 3, (.int .u64 v : Value)), (w.heap.size, 4, (.int .u64 e : Value))]) (by kernel_rfl) (by kernel_rfl) ⟨by go_grown, Below.refl _ _, ⟨by first | omega | go_size, by first | go_cell | (simp [*]; done), by first | (with_reducible assumption) | (go_simp; done) | (simp [*]; done)⟩, ⟨by first | omega | go_size, by first | go_cell | (simp [*]; done), by first | (with_reducible assumption) | (go_simp; done) | (simp [*]; done)⟩, ⟨by first | omega | go_size, by first | go_cell | (simp [*]; done), by first | (with_reducible assumption) | (go_simp; done) | (simp [*]; done)⟩, ⟨by first | omega | go_size, by first | go_cell | (simp [*]; done), by first | (with_reducible assumption) | (go_simp; done) | (simp [*]; done)⟩, ⟨by first | omega | go_size, by first | go_cell | (simp [*]; done), by first | (with_reducible assumption) | (go_simp; done) | (simp [*]; done)⟩, trivial⟩ ?_
      repeat (first | go_big_quiet_step ((intro hq; first | rfl | (go_at_call 26; exact Lib.Held.same hq (closure_any _ _)) | (have hq' := hq; obtain ⟨hbq, heq, ⟨hkq_0, hlq_0, hzq_0⟩, ⟨hkq_1, hlq_1, hzq_1⟩, ⟨hkq_2, hlq_2, hzq_2⟩, ⟨hkq_3, hlq_3, hzq_3⟩, ⟨hkq_4, hlq_4, hzq_4⟩, _⟩ := hq'; go_simp; rfl))) | quiet_step ((intro hq; first | rfl | (go_at_call 26; exact Lib.Held.same hq (closure_any _ _)) | (have hq' := hq; obtain ⟨hbq, heq, ⟨hkq_0, hlq_0, hzq_0⟩, ⟨hkq_1, hlq_1, hzq_1⟩, ⟨hkq_2, hlq_2, hzq_2⟩, ⟨hkq_3, hlq_3, hzq_3⟩, ⟨hkq_4, hlq_4, hzq_4⟩, _⟩ := hq'; go_simp; rfl))))
      refine wpQuiet_nil ?_
      intro W6 hq6
      obtain ⟨hb6, he6, ⟨hk6_0, hl6_0, hz6_0⟩, ⟨hk6_1, hl6_1, hz6_1⟩, ⟨hk6_2, hl6_2, hz6_2⟩, ⟨hk6_3, hl6_3, hz6_3⟩, ⟨hk6_4, hl6_4, hz6_4⟩, _⟩ := hq6
      have hs6 := he6.size
      try simp only [World.size_alloc, World.size_setCell, World.size_drew] at hs6
      try simp only [sq]
      try simp only [sr]
      try simp only [Bool.bne_true, Bool.bne_false, Bool.true_bne, Bool.false_bne, Bool.not_true, Bool.not_false, bne_self_eq_false]
      first | (exfalso; omega) | (go_wp2_with fail; done) | (go_wp2_with fail; go_ret; exact ⟨rfl, by go_grown⟩)
    · have ga : (a == 1) = false := by simpa using qa
      have sq2 : (splitB a == p) = !(splitB a != p) := by generalize splitB a = q; cases q <;> cases p <;> rfl
      rw [sq] at sq2
      try rw [Bool.not_true] at sq2
      try rw [Bool.not_false] at sq2
      have gb : (b == 1) = false := by simpa using qb
      have sr2 : (splitB b == p) = !(splitB b != p) := by generalize splitB b = q; cases q <;> cases p <;> rfl
      rw [sr] at sr2
      try rw [Bool.not_true] at sr2
      try rw [Bool.not_false] at sr2
      clear et em
      refine Lib.wp_region_class (Lib.Held w _ [(w.heap.size, 0, (.bool p : Value)), (w.heap.size, 1, (.int .i64 n : Value)), (w.heap.size, 2, (.int .u64 d : Value)), (w.heap.size, 3, (.int .u64 v : Value)), (w.heap.size, 4, (.int .u64 e : Value))]) (by kernel_rfl) (by kernel_rfl) ⟨by go_grown, Below.refl _ _, ⟨by first | omega | go_size, by first | go_cell | (simp [*]; done), by first | (with_reducible assumption) | (go_simp; done) | (simp [*]; done)⟩, ⟨by first | omega | go_size, by first | go_cell | (simp [*]; done), by first | (with_reducible assumption) | (go_simp; done) | (simp [*]; done)⟩, ⟨by first | omega | go_size, by first | go_cell | (simp [*]; done), by first | (with_reducible assumption) | (go_simp; done) | (simp [*]; done)⟩, ⟨by first | omega | go_size, by first | go_cell | (simp [*]; done), by first | (with_reducible assumption) | (go_simp; done) | (simp [*]; done)⟩, ⟨by first | omega | go_size, by first | go_cell | (simp [*]; done), by first | (with_reducible assumption) | (go_simp; done) | (simp [*]; done)⟩, trivial⟩ ?_
      repeat (first | go_big_quiet_step ((intro hq; first | rfl | (go_at_call 26; exact Lib.Held.same hq (closure_any _ _)) | (have hq' := hq; obtain ⟨hbq, heq, ⟨hkq_0, hlq_0, hzq_0⟩, ⟨hkq_1, hlq_1, hzq_1⟩, ⟨hkq_2, hlq_2, hzq_2⟩, ⟨hkq_3, hlq_3, hzq_3⟩, ⟨hkq_4, hlq_4, hzq_4⟩, _⟩ := hq'; go_simp; rfl))) | quiet_step ((intro hq; first | rfl | (go_at_call 26; exact Lib.Held.same hq (closure_any _ _)) | (have hq' := hq; obtain ⟨hbq, heq, ⟨hkq_0, hlq_0, hzq_0⟩, ⟨hkq_1, hlq_1, hzq_1⟩, ⟨hkq_2, hlq_2, hzq_2⟩, ⟨hkq_3, hlq_3, hzq_3⟩, ⟨hkq_4, hlq_4, hzq_4⟩, _⟩ := hq'; go_simp; rfl))))
      refine wpQuiet_nil ?_
      intro W6 hq6
      obtain ⟨hb6, he6, ⟨hk6_0, hl6_0, hz6_0⟩, ⟨hk6_1, hl6_1, hz6_1⟩, ⟨hk6_2, hl6_2, hz6_2⟩, ⟨hk6_3, hl6_3, hz6_3⟩, ⟨hk6_4, hl6_4, hz6_4⟩, _⟩ := hq6
      have hs6 := he6.size
      try simp only [World.size_alloc, World.size_setCell, World.size_drew] at hs6
      try simp only [sq]
      try simp only [sr]
      try simp only [Bool.bne_true, Bool.bne_false, Bool.true_bne, Bool.false_bne, Bool.not_true, Bool.not_false, bne_self_eq_false]
      first | (exfalso; omega) | (go_wp2_with fail; done) | (go_wp2_with fail; go_ret; exact ⟨rfl, by go_grown⟩)
    · have ga : (a == 1) = false := by simpa using qa
      have sq2 : (splitB a == p) = !(splitB a != p) := by generalize splitB a = q; cases q <;> cases p <;> rfl
      rw [sq] at sq2
      try rw [Bool.not_true] at sq2
      try rw [Bool.not_false] at sq2
      have gb : (b == 1) = false := by simpa using qb
      have sr2 : (splitB b == p) = !(splitB b != p) := by generalize splitB b = q; cases q <;> cases p <;> rfl
      rw [sr] at sr2
      try rw [Bool.not_true] at sr2
      try rw [Bool.not_false] at sr2
      refine Lib.wp_region_class (Lib.Held w _ [(w.heap.size, 0, (.bool p : Value)), (w.heap.size, 1, (.int .i64 n : Value)), (w.heap.size, 2, (.int .u64 d : Value)), (w.heap.size, 3, (.int .u64 v : Value)), (w.heap.size, 4, (.int .u64 e : Value))]) (by kernel_rfl) (by kernel_rfl) ⟨by go_grown, Below.refl _ _, ⟨by first | omega | go_size, by first | go_cell | (simp [*]; done), by first | (with_reducible assumption) | (go_simp; done) | (simp [*]; done)⟩, ⟨by first | omega | go_size, by first | go_cell | (simp [*]; done), by first | (with_reducible assumption) | (go_simp; done) | (simp [*]; done)⟩, ⟨by first | omega | go_size, by first | go_cell | (simp [*]; done), by first | (with_reducible assumption) | (go_simp; done) | (simp [*]; done)⟩, ⟨by first | omega | go_size, by first | go_cell | (simp [*]; done), by first | (with_reducible assumption) | (go_simp; done) | (simp [*]; done)⟩, ⟨by first | omega | go_size, by first | go_cell | (simp [*]; done), by first | (with_reducible assumption) | (go_simp; done) | (simp [*]; done)⟩, trivial⟩ ?_
      repeat (first | go_big_quiet_step ((intro hq; first | rfl | (go_at_call 26; exact Lib.Held.same hq (closure_any _ _)) | (have hq' := hq; obtain ⟨hbq, heq, ⟨hkq_0, hlq_0, hzq_0⟩, ⟨hkq_1, hlq_1, hzq_1⟩, ⟨hkq_2, hlq_2, hzq_2⟩, ⟨hkq_3, hlq_3, hzq_3⟩, ⟨hkq_4, hlq_4, hzq_4⟩, _⟩ := hq'; go_simp; rfl))) | quiet_step ((intro hq; first | rfl | (go_at_call 26; exact Lib.Held.same hq (closure_any _ _)) | (have hq' := hq; obtain ⟨hbq, heq, ⟨hkq_0, hlq_0, hzq_0⟩, ⟨hkq_1, hlq_1, hzq_1⟩, ⟨hkq_2, hlq_2, hzq_2⟩, ⟨hkq_3, hlq_3, hzq_3⟩, ⟨hkq_4, hlq_4, hzq_4⟩, _⟩ := hq'; go_simp; rfl))))
      refine wpQuiet_nil ?_
      intro W6 hq6
      obtain ⟨hb6, he6, ⟨hk6_0, hl6_0, hz6_0⟩, ⟨hk6_1, hl6_1, hz6_1⟩, ⟨hk6_2, hl6_2, hz6_2⟩, ⟨hk6_3, hl6_3, hz6_3⟩, ⟨hk6_4, hl6_4, hz6_4⟩, _⟩ := hq6
      have hs6 := he6.size
      try simp only [World.size_alloc, World.size_setCell, World.size_drew] at hs6
      try simp only [sq]
      try simp only [sr]
      try simp only [Bool.bne_true, Bool.bne_false, Bool.true_bne, Bool.false_bne, Bool.not_true, Bool.not_false, bne_self_eq_false]
      first | (exfalso; omega) | (go_wp2_with fail; done) | (go_wp2_with fail; go_ret; exact ⟨rfl, by go_grown⟩)

set_option maxRecDepth 100000 in
theorem lifted (os : Os) (started : os.Started) (H : Type) (enc : TypeId × Value → H) :
    ReturnsInHanded {} Try.checked os 5 .any (Rows.layoutApartSpec.pre6 enc Try.prog Try.f5 Rows.layoutApartRow.domain false) (Rows.layoutApartSpec.post enc Try.prog Try.f5 false true false false) := by
  refine Lib.lifted (C := Try.checked) (tb := 4) H enc Lib.own started (by kernel_rfl) Try.func5
    (ChangeSpec.witness6 (enc := enc) (C := Try.checked) false ⟨#[], #[.agg #[.bool false, .int .i64 0, .int .u64 0, .int .u64 0, .int .u64 0], .int .i64 0, .int .i64 0, .int .i64 0, .int .i64 0], []⟩ 8 (by kernel_rfl) (by kernel_rfl) (by kernel_rfl) (by kernel_rfl))
    Lib.laidOut (Lib.readable_of (by kernel_rfl)) rfl Try.underlying4 rfl ?_ ?_
  · intro ds h
    match ds, h with
    | [_, _, _, _, _], _ => exact ⟨rfl, rfl, rfl⟩
  · intro W base args ds p hval hA hfz hlt
    rw [Try.params5] at hval
    have hA' : DataW.TrodAll enc Try.prog W 0 (fun _ => true) true Try.f5.params.toList args.toList ds p := hA
    rw [Try.params5] at hA'
    obtain ⟨v0, vs0, d0, ds0, p0, q0, hargs, rfl, rfl, h0, r0⟩ := trodAll_cons hA'
    obtain ⟨v1, vs1, d1, ds1, p1, q1, rfl, rfl, rfl, h1, r1⟩ := trodAll_cons r0
    obtain ⟨v2, vs2, d2, ds2, p2, q2, rfl, rfl, rfl, h2, r2⟩ := trodAll_cons r1
    obtain ⟨v3, vs3, d3, ds3, p3, q3, rfl, rfl, rfl, h3, r3⟩ := trodAll_cons r2
    obtain ⟨v4, vs4, d4, ds4, p4, q4, rfl, rfl, rfl, h4, r4⟩ := trodAll_cons r3
    obtain ⟨rfl, rfl, rfl⟩ := trodAll_nil r4
    obtain rfl : args = #[v0, v1, v2, v3, v4] := by cases args; simp_all
    obtain ⟨a0_0, a0_1, a0_2, a0_3, a0_4, rfl, w0⟩ := Lay.open_rings (hval 0 24 v0 rfl rfl) h0
    obtain ⟨a1, rfl, rfl, rfl, w1⟩ := open_int Try.underlying3 (hval 1 3 v1 rfl rfl) h1
    obtain ⟨a2, rfl, rfl, rfl, w2⟩ := open_int Try.underlying3 (hval 2 3 v2 rfl rfl) h2
    obtain ⟨a3, rfl, rfl, rfl, w3⟩ := open_int Try.underlying3 (hval 3 3 v3 rfl rfl) h3
    obtain ⟨a4, rfl, rfl, rfl, w4⟩ := open_int Try.underlying3 (hval 4 3 v4 rfl rfl) h4
    exact walk a0_0 a0_1 a0_2 a0_3 a0_4 a1 a2 a3 a4 w0 w1 w2 w3 w4 W

theorem over : Rows.layoutApartRow.holds Try.pinned (OpenSpec.ofChange Rows.layoutApartSpec) :=
  OpenClaim.holds_of_wide 5 Try.f5 rfl rfl rfl rfl rfl rfl rfl ⟨rfl, rfl, rfl, rfl, rfl⟩ rfl rfl rfl rfl rfl (by kernel_rfl) Try.func5 (by kernel_rfl)
    (of_decide_eq_true (by kernel_rfl)) (by unfold Func.isWrapper; first | (rw [if_pos (by decide +kernel)]; kernel_rfl) | (rw [if_neg (by decide +kernel)]; exact ⟨rfl, rfl⟩))
    (fun os started H enc _ => lifted os started H enc)

/-- The statement. -/
theorem proved : Rows.LayoutApartSaid :=
  over

end Go.Proofs.Ytlcpdhplaaljaaa.LayoutApart
