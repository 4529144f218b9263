
/- The document's own memory of a valid list. -/
import Derived.Test.YtmmgcmbniidieaaGmRef
import Derived.Test.YtmmgcmbniidieaaGmRefN
import Derived.Test.YtmmgcmbniidieaaGmCopyR
import Derived.Test.YtmmgcmbniidieaaAppendOpt
namespace Go.Proofs.Ytmmgcmbniidieaa.GmRefM
open Go.RowKit Rw GmFind GmWord GmCheck GmNew GmCopyR GmRef GmRefN Asr2
set_option linter.unusedVariables false
set_option linter.unusedSimpArgs false

def rowR (k : Nat) (r : Rg) : List Value := (List.range (k * 2)).map r.cell
theorem rowR_one (k : Nat) (r : Rg) : ∀ v ∈ rowR k r, v.oneCell' = true := by
  intro v hv
  obtain ⟨q, _, rfl⟩ := List.mem_map.1 hv
  unfold Rg.cell
  split <;> rfl
theorem rowR_get {k : Nat} {r : Rg} {j : Nat} {v : Value} (h : (rowR k r)[j]? = some v) : j < k * 2 ∧ v = r.cell j := by
  unfold rowR at h
  rw [List.getElem?_map] at h
  obtain ⟨q, h1, h2⟩ := Option.map_eq_some_iff.1 h
  obtain ⟨h3, h4⟩ := List.getElem?_eq_some_iff.1 h1
  rw [List.getElem_range] at h4
  subst h4
  exact ⟨by simpa using h3, h2.symm⟩
theorem open_tmps (t : Array Value) (n : Nat) (h : t.size = n) : t = ((List.range n).map fun i => t.getD i undef).toArray := by
  subst h
  refine Array.ext (by simp) fun i h1 h2 => ?_
  simp [Array.getD_eq_getD_getElem?, h1]
theorem open36 (t : Array Value) (h : t.size = 36) : t = #[t.getD 0 undef, t.getD 1 undef, t.getD 2 undef, t.getD 3 undef, t.getD 4 undef, t.getD 5 undef, t.getD 6 undef, t.getD 7 undef, t.getD 8 undef, t.getD 9 undef, t.getD 10 undef, t.getD 11 undef, t.getD 12 undef, t.getD 13 undef, t.getD 14 undef, t.getD 15 undef, t.getD 16 undef, t.getD 17 undef, t.getD 18 undef, t.getD 19 undef, t.getD 20 undef, t.getD 21 undef, t.getD 22 undef, t.getD 23 undef, t.getD 24 undef, t.getD 25 undef, t.getD 26 undef, t.getD 27 undef, t.getD 28 undef, t.getD 29 undef, t.getD 30 undef, t.getD 31 undef, t.getD 32 undef, t.getD 33 undef, t.getD 34 undef, t.getD 35 undef] := open_tmps t 36 h
/-- How long the parts are. -/
def lens (k : Nat) (r : Rg) : List Nat := (List.range k).map fun i => (r.len i).toNat

set_option maxRecDepth 100000 in
set_option maxHeartbeats 2000000 in
theorem r_new_ok (A : Option Addr) (k c : Nat) (r : Rg) (w : World) (hk0 : 0 < k) (hk : k ≤ 16) (hr : Raw r k) (hs : ∀ i, i < k → Step r i) (h : Lst w w.heap.size A k r) :
    Calls Try.prog 11 #[.slice A k c] w fun e w' => ∃ (m c2 : Nat) (A2 : Option Addr) (x : Value) (ps : List (Nat × Nat)), e = .returned (.tuple #[.pointer (some ⟨m, 0, none⟩), .int .i64 0]) ∧ MM w' m (.slice A2 k c2) x ∧ Ps w' m m x ps ∧
      ps.map (·.2) = lens k r ∧ w.heap.size ≤ m ∧ w'.ownsRow w.heap.size 55 2 (.slice A2 k c2) k (rowR k r) ∧ (∀ b, (Value.slice A2 k c2).ownBlock = some b → b < m) ∧ Below w.heap.size w w' := by
  have hb0 : Below w.heap.size w w := Below.refl _ _
  obtain ⟨ad, rfl, had, hcells⟩ := h hk0
  obtain ⟨i0, hi, hz0, hz1, hz2⟩ := rginfo
  have H0 := Lib.hid hi
  have H1 := Lib.hid hz0
  have H2 := Lib.hid hz1
  have H3 := Lib.hid hz2
  have HR := Lib.hid hr
  have HS := Lib.hid hs
  have HL := Lib.hid h
  have HD := Lib.hid had
  have HC := Lib.hid (r_check_any (some ad) k c r 0 w hk hr (fun _ => rfl) (fun h => absurd hs h) h)
  have HN := Lib.hid (show (rowR k r).length = k * 2 from by simp [rowR])
  clear hr hs h hi hz0 hz1 hz2 had hcells
  go_enter Try.func11, Try.ntmps11
  go_wp2_with fail
  refine (HC.out).mono ?_
  rintro eE W1 ⟨rfl, hg1⟩
  have hs1 := hg1.size
  have hb1 : Below w.heap.size w W1 := hg1
  have HO := Lib.hid (World.ownsRow_made (base := w.heap.size) (e := 55) (size := 2) W1 #[] 0 hs1 (by unfold maxLen; omega) rfl)
  have HK := Lib.hid (show ∀ j v, (rowR k r)[j]? = some v → (W1.alloc (.cells #[] 55)).cell? (ad.add j) = some v from fun j v hj => by
    obtain ⟨hj1, rfl⟩ := rowR_get hj
    obtain ⟨ad', e, h1, h2⟩ := HL.out hk0
    cases e
    rw [World.cell?_alloc_lt _ _ _ (by rw [block_of_add]; omega), hb1.cell (by rw [block_of_add]; exact h1)]
    exact h2 j hj1)
  clear HC hg1
  go_wp2_with (at_builtin; refine wpList_append_own _ rfl _ _ 22 rfl w.heap.size 55 i0 (.agg #[.int .u64 0, .int .u64 0]) 2 16 Try.underlying22 H0.out H1.out H2.out H3.out rfl (by decide) (.slice (some ⟨W1.heap.size, 0, none⟩) 0 0) 0 [] rfl HO.out ad k c (rowR k r) rfl HN.out HK.out (rowR_one k r) (by unfold maxLen; omega) (by omega) (by rw [World.size_alloc]; omega) ?_)
  intro v' W2 hown' hg' _
  have hown2 : W2.ownsRow w.heap.size 55 2 v' k (rowR k r) := by
    simpa using hown'
  obtain ⟨A2, c2, rfl⟩ := own_slice hown2
  have hb2 : Below w.heap.size w W2 := (hb1.alloc hs1 _).grown hg' (by rw [World.size_alloc]; omega) (fun b e => by cases e; exact hs1)
  have hs2 := hb2.size
  have HO2 := Lib.hid hown2
  have HB2 := Lib.hid hb2
  clear hown' hg' hown2 hb2 hb1
  obtain ⟨m, hm⟩ : ∃ m, W2.heap.size = m := ⟨_, rfl⟩
  have HM := Lib.hid hm
  go_wp2_with fail
  have hmrow : MM (W2.alloc (.cells #[.slice A2 k c2, .slice none 0 0] 79)) m (.slice A2 k c2) (.slice none 0 0) := by
    have := World.rowIs_alloc W2 #[.slice A2 k c2, .slice none 0 0] 79 (fun i => if i = 0 then .slice A2 k c2 else .slice none 0 0) (fun i hi => by
      match i, hi with
      | 0, _ => rfl
      | 1, _ => rfl)
    rwa [hm] at this
  have HMR := Lib.hid hmrow
  clear hmrow
  have hmr0 : W2.grownBy (W2.alloc (.cells #[.slice A2 k c2, .slice none 0 0] 79)) none := World.grownBy_alloc W2 _ none
  have HG := Lib.hid hmr0
  clear hmr0
  go_loopw [5] (fun y wr => ∃ (j : Nat) (x : Value) (ps : List (Nat × Nat)), j ≤ k ∧ y = .int .i64 j ∧ MM wr m (.slice A2 k c2) x ∧ Ps wr m m x ps ∧ ps.map (·.2) = lens j r ∧ m ≤ wr.heap.size ∧ Below m W2 wr) (fun y wr => k - (intOf y).toNat)
  case atStart =>
    refine ⟨0, _, [], by omega, rfl, HMR.out, ⟨⟨rfl, .inl ⟨rfl, rfl⟩⟩, by simp [Value.ownBlock], by simp, by simp⟩, rfl, by simp [HM.out], ?_⟩
    have := (Below.refl W2.heap.size W2).alloc (Nat.le_refl _) (.cells #[.slice A2 k c2, .slice none 0 0] 79)
    rwa [HM.out] at this
  case round =>
    obtain ⟨j, x, ps, hj, rfl, hM, hP, hps, hsz, hb⟩ := hrel
    by_cases hlt : j < k
    · go_wp2_with fail
      obtain ⟨s1, s2, s3, s4⟩ := HS.out j hlt
      have t1 := sum_lo HR.out j hj
      have hlj : ((r.len j).toNat : Int) = r.len j := by omega
      refine Asrt.to_ops (id := 7) (ops := OPS) (by kernel_rfl) ?_
      refine region7 ⟨W2, m, m, k, c, j, (r.len j).toNat, ad, .slice A2 k c2, x, ps⟩ ⟨Nat.le_refl _, by have := HD.out; show ad.block < m; omega, hlt, by show (r.len j).toNat ≤ 1048576; omega, by have := congrArg List.length hps; simp [lens] at this; show ps.length ≤ 1000; omega, ?_⟩ ⟨hb, hsz, _, hM⟩ rfl rfl rfl hP hM rfl ?_
      · obtain ⟨ad', e, h1, h2⟩ := (HL.out.below HB2.out) hk0
        cases e
        have c1 := elj h2 hlt 1 (by decide) (by decide)
        rw [Rg.cell1] at c1
        show W2.cell? _ = some (.int .u64 ((r.len j).toNat : Int))
        rw [hlj]
        exact c1
      rintro ⟨ts, df⟩ w' hC' hsz' hdf hU ⟨x', b, hM', hP'⟩
      obtain rfl : df = [] := hdf
      have hts : ts.size = 36 := hsz'
      have HT := Lib.hid (And.intro hC' (And.intro hM' hP'))
      clear hC' hM' hP' hsz'
      have q0 : ts.getD 0 undef = .slice (some ad) k c := hU 0 (by kernel_rfl)
      have q1 : ts.getD 1 undef = undef := hU 1 (by kernel_rfl)
      have q2 : ts.getD 2 undef = .pointer none := hU 2 (by kernel_rfl)
      have q3 : ts.getD 3 undef = .int .i64 0 := hU 3 (by kernel_rfl)
      have q4 : ts.getD 4 undef = .pointer (some ⟨m, 0, none⟩) := hU 4 (by kernel_rfl)
      have q5 : ts.getD 5 undef = .int .i64 (j : Int) := hU 5 (by kernel_rfl)
      have q6 : ts.getD 6 undef = .slice (some ad) k c := hU 6 (by kernel_rfl)
      have q7 : ts.getD 7 undef = .int .i64 0 := hU 7 (by kernel_rfl)
      have q8 : ts.getD 8 undef = .bool false := hU 8 (by kernel_rfl)
      have q9 : ts.getD 9 undef = .slice (some ⟨W1.heap.size, 0, none⟩) 0 0 := hU 9 (by kernel_rfl)
      have q10 : ts.getD 10 undef = .slice (some ad) k c := hU 10 (by kernel_rfl)
      have q11 : ts.getD 11 undef = .slice A2 k c2 := hU 11 (by kernel_rfl)
      have q12 : ts.getD 12 undef = .agg #[.slice A2 k c2, .slice none 0 0] := hU 12 (by kernel_rfl)
      have q13 : ts.getD 13 undef = .pointer (some ⟨m, 0, none⟩) := hU 13 (by kernel_rfl)
      have q35 : ts.getD 35 undef = undef := hU 35 (by kernel_rfl)
      clear hU
      rw [open36 ts hts, q0, q1, q2, q3, q4, q5, q6, q7, q8, q9, q10, q11, q12, q13, q35]
      clear q0 q1 q2 q3 q4 q5 q6 q7 q8 q9 q10 q11 q12 q13 q35
      generalize ts.getD 14 undef = z14
      generalize ts.getD 15 undef = z15
      generalize ts.getD 16 undef = z16
      generalize ts.getD 17 undef = z17
      generalize ts.getD 18 undef = z18
      generalize ts.getD 19 undef = z19
      generalize ts.getD 20 undef = z20
      generalize ts.getD 21 undef = z21
      generalize ts.getD 22 undef = z22
      generalize ts.getD 23 undef = z23
      generalize ts.getD 24 undef = z24
      generalize ts.getD 25 undef = z25
      generalize ts.getD 26 undef = z26
      generalize ts.getD 27 undef = z27
      generalize ts.getD 28 undef = z28
      generalize ts.getD 29 undef = z29
      generalize ts.getD 30 undef = z30
      generalize ts.getD 31 undef = z31
      generalize ts.getD 32 undef = z32
      generalize ts.getD 33 undef = z33
      generalize ts.getD 34 undef = z34
      go_wp2_with fail
      go_roundw
      case rel => exact ⟨j + 1, x', ps ++ [(b, (r.len j).toNat)], by omega, by go_num, HT.out.2.1, HT.out.2.2, by rw [List.map_append, hps]; simp [lens, List.range_succ], HT.out.1.2.1, HT.out.1.1⟩
      case measure => simp [intOf]; omega
    · obtain rfl : j = k := by omega
      go_wp2_with fail
      go_returns
      have hbw : Below W2.heap.size W2 wr := by rw [HM.out]; exact hb
      exact ⟨m, c2, A2, x, ps, rfl, hM, hP, hps, by omega, HO2.out.kept (row := none) (only_of_below hbw none) (by cases (Value.slice A2 j c2).ownBlock <;> simp), fun b e => by have := (HO2.out.lt b e).2; omega, HB2.out.trans (hbw.mono hs2)⟩

set_option maxRecDepth 100000 in
set_option maxHeartbeats 2000000 in
theorem r_new_none (A : Option Addr) (c : Nat) (r : Rg) (w : World) (hA : A = none → c = 0) :
    Calls Try.prog 11 #[.slice A 0 c] w fun e w' => ∃ (m c2 : Nat) (A2 : Option Addr) (x : Value) (ps : List (Nat × Nat)), e = .returned (.tuple #[.pointer (some ⟨m, 0, none⟩), .int .i64 0]) ∧ MM w' m (.slice A2 0 c2) x ∧ Ps w' m m x ps ∧
      ps.map (·.2) = lens 0 r ∧ w.heap.size ≤ m ∧ w'.ownsRow w.heap.size 55 2 (.slice A2 0 c2) 0 (rowR 0 r) ∧ (∀ b, (Value.slice A2 0 c2).ownBlock = some b → b < m) ∧ Below w.heap.size w w' := by
  have hb0 : Below w.heap.size w w := Below.refl _ _
  obtain ⟨i0, hi, hz0, hz1, hz2⟩ := rginfo
  have H0 := Lib.hid hi
  have H1 := Lib.hid hz0
  have H2 := Lib.hid hz1
  have H3 := Lib.hid hz2
  have HA := Lib.hid hA
  have HC := Lib.hid (r_check_any A 0 c r 0 w (by omega) (fun i hi => absurd hi (by omega)) (fun _ => rfl) (fun h => absurd (fun i hi => absurd hi (by omega)) h) (fun h => absurd h (by omega)))
  clear hi hz0 hz1 hz2 hA
  go_enter Try.func11, Try.ntmps11
  go_wp2_with fail
  refine (HC.out).mono ?_
  rintro eE W1 ⟨rfl, hg1⟩
  have hs1 := hg1.size
  have hb1 : Below w.heap.size w W1 := hg1
  have HO := Lib.hid (World.ownsRow_made (base := w.heap.size) (e := 55) (size := 2) W1 #[] 0 hs1 (by unfold maxLen; omega) rfl)
  clear HC hg1
  go_wp2_with (at_builtin; refine wpList_append_opt rfl _ _ 22 rfl w.heap.size 55 i0 (.agg #[.int .u64 0, .int .u64 0]) 2 16 Try.underlying22 H0.out H1.out H2.out H3.out rfl (by decide) (.slice (some ⟨W1.heap.size, 0, none⟩) 0 0) 0 [] rfl HO.out A 0 c [] rfl (fun h => ⟨rfl, HA.out h⟩) rfl (fun ad _ j u hj => by simp at hj) (by simp) (by unfold maxLen; omega) (by omega) (by rw [World.size_alloc]; omega) ?_)
  intro v' W2 hown' hg'
  have hown2 : W2.ownsRow w.heap.size 55 2 v' 0 (rowR 0 r) := by
    have e : rowR 0 r = [] := rfl
    rw [e]
    simpa using hown'
  obtain ⟨A2, c2, rfl⟩ := own_slice hown2
  have hb2 : Below w.heap.size w W2 := (hb1.alloc hs1 _).grown hg' (by rw [World.size_alloc]; omega) (fun b e => by cases e; exact hs1)
  have hs2 := hb2.size
  have HO2 := Lib.hid hown2
  have HB2 := Lib.hid hb2
  clear hown' hg' hown2 hb2 hb1
  obtain ⟨m, hm⟩ : ∃ m, W2.heap.size = m := ⟨_, rfl⟩
  have HM := Lib.hid hm
  go_wp2_with fail
  have hmrow : MM (W2.alloc (.cells #[.slice A2 0 c2, .slice none 0 0] 79)) m (.slice A2 0 c2) (.slice none 0 0) := by
    have := World.rowIs_alloc W2 #[.slice A2 0 c2, .slice none 0 0] 79 (fun i => if i = 0 then .slice A2 0 c2 else .slice none 0 0) (fun i hi => by
      match i, hi with
      | 0, _ => rfl
      | 1, _ => rfl)
    rwa [hm] at this
  have HMR := Lib.hid hmrow
  have HG := Lib.hid (World.grownBy_alloc W2 (.cells #[.slice A2 0 c2, .slice none 0 0] 79) none)
  have HW := Lib.hid (HB2.out.alloc hs2 (.cells #[.slice A2 0 c2, .slice none 0 0] 79))
  clear hmrow
  refine wp_loop_rounds 1 ?_
  rw [rounds_succ]
  go_wp2_with fail
  go_returns
  exact ⟨m, c2, A2, _, [], rfl, HMR.out, ⟨⟨rfl, .inl ⟨rfl, rfl⟩⟩, by simp [Value.ownBlock], by simp, by simp⟩, rfl, by omega, HO2.out.kept HG.out (by cases (Value.slice A2 0 c2).ownBlock <;> simp), fun b e => by have := (HO2.out.lt b e).2; omega, HW.out⟩
end Go.Proofs.Ytmmgcmbniidieaa.GmRefM
