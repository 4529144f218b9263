/- Segments in memory: where parts of them lie; Scatter. -/
import Derived.Test.YtohopmccggggbaaSgIn
import Derived.Test.YtohopmccggggbaaSgMath
import Derived.StillTailTactics
namespace Go.Proofs.Ytohopmccggggbaa.SgScat
open Go.RowKit Rw Sg SgCheck SgTake SgTotal SgCut SgMath SgIn GmFind GmWord GmRead GmWrite GmLoad
set_option linter.unusedVariables false
set_option linter.unusedSimpArgs false

theorem idx_lo (r : Rg) (a : Int) : ∀ (k j : Nat), j < idx r a k → r.end_ j < a
  | 0, j, h => by unfold idx at h; omega
  | k + 1, j, h => by
    unfold idx at h
    split at h
    · exact idx_lo r a k j h
    · rename_i h1
      split at h
      · by_cases hj : j < idx r a k
        · exact idx_lo r a k j hj
        · omega
      · rename_i h2
        by_cases hj : j < idx r a k
        · exact idx_lo r a k j hj
        · obtain rfl : j = k := by omega
          omega
theorem place_sub {r : Rg} {k o : Nat} {a n a' n' : Int} (hf : ∀ i, i < k → 0 ≤ r.st i) (h : place r k a n = some o) (h1 : a ≤ a') (h2 : a' + n' ≤ a + n) (h3 : 1 ≤ n') : place r k a' n' = some (o + (a' - a).toNat) := by
  unfold place at h
  by_cases ho : okB r k (idx r a k) a n = true
  · rw [if_pos ho] at h
    injection h with h
    obtain ⟨i, hi⟩ : ∃ i, idx r a k = i := ⟨_, rfl⟩
    have hlo := fun j => idx_lo r a k j
    rw [hi] at ho h hlo
    unfold okB at ho
    simp only [Bool.and_eq_true, decide_eq_true_eq] at ho
    obtain ⟨⟨⟨k1, k2⟩, k3⟩, k4⟩ := ho
    have e : idx r a' k = i := idx_eq r a' k i (by omega) (fun j hj => by have := hlo j hj; omega) (fun _ => by omega)
    unfold place
    rw [e, if_pos (by unfold okB; simp only [Bool.and_eq_true, decide_eq_true_eq]; exact ⟨⟨⟨k1, by omega⟩, h3⟩, by omega⟩)]
    have := hf i k1
    congr 1
    omega
  · rw [if_neg ho] at h
    cases h

theorem take_in {r : Rg} {k : Nat} (hf : ∀ i, i < k → 0 ≤ r.st i) (n : Int) (l : List S3) (h : allIn r k l = true) (hv : ∀ x ∈ l, x.Val) : allIn r k (takeL n l) = true := by
  induction l generalizing n with
  | nil => rfl
  | cons y t ih =>
    rw [allIn_cons, Bool.and_eq_true] at h
    rw [takeL_cons]
    split
    · rfl
    · split
      · rw [allIn_cons]
        obtain ⟨o, ho⟩ := Option.isSome_iff_exists.1 h.1
        rw [place_sub (a' := y.a) (n' := n) hf ho (by omega) (by omega) (by omega)]
        rfl
      · rw [allIn_cons, h.1, ih _ h.2 (fun x hx => hv x (by simp [hx]))]
        rfl
theorem drop_in {r : Rg} {k : Nat} (hf : ∀ i, i < k → 0 ≤ r.st i) (n : Int) (l : List S3) (h : allIn r k l = true) (hv : ∀ x ∈ l, x.Val) : allIn r k (dropL n l) = true := by
  induction l generalizing n with
  | nil => rfl
  | cons y t ih =>
    have h0 := h
    rw [allIn_cons, Bool.and_eq_true] at h
    rw [dropL_cons]
    split
    · exact h0
    · split
      · rw [allIn_cons]
        obtain ⟨o, ho⟩ := Option.isSome_iff_exists.1 h.1
        rw [place_sub (a' := y.a + n) (n' := y.n - n) hf ho (by omega) (by omega) (by omega), h.2]
        rfl
      · exact ih _ h.2 (fun x hx => hv x (by simp [hx]))
theorem part_in {r : Rg} {k : Nat} (hf : ∀ i, i < k → 0 ≤ r.st i) (b : Bool) {l : List S3} (h : allIn r k l = true) (hb : Buf l) : allIn r k (partL l b) = true := by
  unfold partL
  split
  · rw [hb.cut]; exact take_in hf _ _ (drop_in hf _ _ h hb.val) (hb.drop _ hb.rd0).val
  · rw [hb.cut0]; exact take_in hf _ _ h hb.val
theorem part_buf (b : Bool) {l : List S3} (hb : Buf l) : Buf (partL l b) := by
  unfold partL
  split
  · rw [hb.cut]; exact (hb.drop _ hb.rd0).take _ hb.wr0
  · rw [hb.cut0]; exact hb.take _ hb.rd0

/-- The cells when bytes have been written to segments, one after the other. -/
def scF (r : Rg) (k : Nat) (gb : Nat → Int) : Nat → List S3 → (Nat → Value) → (Nat → Value)
  | _, [], F => F
  | n, x :: l, F => scF r k gb (n + x.n.toNat) l (wrF F ((place r k x.a x.n).getD 0) x.n.toNat (fun j => gb (n + j)))
theorem scF_cons (r : Rg) (k : Nat) (gb : Nat → Int) (n : Nat) (x : S3) (l : List S3) (F : Nat → Value) : scF r k gb n (x :: l) F = scF r k gb (n + x.n.toNat) l (wrF F ((place r k x.a x.n).getD 0) x.n.toNat (fun j => gb (n + j))) := rfl

theorem row_other {w w' : World} {size N b3 : Nat} {A : Option Addr} {F : Nat → Value} (h : IsRow w w.heap.size size A N F) (hg : w.grownBy w' (some b3)) (hne : 0 < N → ∀ ad, A = some ad → ad.block ≠ b3) : IsRow w' w'.heap.size size A N F := fun hn => by
  obtain ⟨ad, e, hlt, hc⟩ := h hn
  have := hne hn ad e
  exact ⟨ad, e, Nat.lt_of_lt_of_le hlt hg.size, fun j hj => (World.cell?_of_block (a := ad.add j) (by rw [block_of_add]; exact hg.block _ hlt (by intro e'; cases e'; exact this rfl))).trans (hc j hj)⟩

set_option maxRecDepth 100000 in
set_option maxHeartbeats 4000000 in
theorem scatter_bad {m k g1 b3 c1 c2 n3 c3 : Nat} {A2 : Option Addr} {r : Rg} (A : Option Addr) (c : Nat) (l : List S3) (v : Value) (w : World) (hM : Mm w m k g1 b3 A2 c1 c2 n3 c3 r) (hn : l.length ≤ 1000000) (hraw : ∀ x ∈ l, x.Raw) (h : Lst w w.heap.size A l) (hi : inL r k l ≠ 0) :
    Calls Try.prog 80 #[.pointer (some ⟨m, 0, none⟩), .slice A l.length c, v] w fun e w' => e = .returned (.tuple #[.int .i64 0, .int .i64 (inL r k l)]) ∧ Below w.heap.size w w' := by
  have hb0 : Below w.heap.size w w := Below.refl _ _
  have h1 : (inL r k l == 0) = false := by simp [hi]
  have HM := Lib.hid hM
  have HL := Lib.hid h
  clear hM h hi
  go_enter Try.func80, Try.ntmps80
  go_wp2_with fail
  refine (in_any A c l _ HM.out hn hraw HL.out).mono ?_
  rintro eE W1 ⟨rfl, hg1⟩
  have hb1 : Below w.heap.size w W1 := (show Below w.heap.size w _ by go_grown).trans (hg1.mono (by first | omega | go_size))
  obtain ⟨hc1, hf1⟩ := bcell hg1
  have hs1 := hg1.size
  try simp only [World.size_alloc, World.size_setCell, World.size_drew] at hs1
  clear hg1 hc1 hf1
  go_wp2_with fail
  go_returns
  exact ⟨rfl, by go_grown⟩

set_option maxRecDepth 100000 in
set_option maxHeartbeats 8000000 in
theorem scatter_ok {m k g1 b3 c1 c2 n3 c3 : Nat} {A2 : Option Addr} {r : Rg} (A : Option Addr) (c : Nat) (l : List S3) (AB : Option Addr) (N cb M : Nat) (gb : Nat → Int) (t : TypeId) (F : Nat → Value) (w : World) (hM : Mm w m k g1 b3 A2 c1 c2 n3 c3 r)
    (hraw : ∀ x ∈ l, x.Raw) (h : Lst w w.heap.size A l) (hi : inL r k l = 0) (hMn : n3 ≤ M) (hrow : w.rowIs b3 t M F)
    (hsrc : IsRow w w.heap.size 1 AB N (fun j => .int .u8 (gb j))) (hN : N ≤ cb) (hN2 : N ≤ 1000000000) (hne : 0 < N → ∀ ad, AB = some ad → ad.block ≠ b3) :
    Calls Try.prog 80 #[.pointer (some ⟨m, 0, none⟩), .slice A l.length c, .slice AB N cb] w fun e w' => e = .returned (.tuple #[.int .i64 (sm (takeL N (partL l true))), .int .i64 0]) ∧ w'.rowIs b3 t M (scF r k gb 0 (takeL N (partL l true)) F) ∧ w.grownBy w' (some b3) := by
  have hb0 : Below w.heap.size w w := Below.refl _ _
  have hk : checkL l = 0 ∧ allIn r k l = true := by
    unfold inL at hi
    by_cases hc : checkL l = 0
    · rw [if_pos hc] at hi
      refine ⟨hc, ?_⟩
      cases ha : allIn r k l with
      | true => rfl
      | false => rw [ha] at hi; exact absurd hi (by decide)
    · rw [if_neg hc] at hi
      exact absurd hi hc
  have hbuf := Buf.of hraw hk.1
  have hst : ∀ i, i < k → 0 ≤ r.st i := fun i hi => (hM.fit i hi).1
  have hpb := part_buf true hbuf
  have hpi := part_in hst true hk.2 hbuf
  obtain ⟨P, hP⟩ : ∃ P, partL l true = P := ⟨_, rfl⟩
  rw [hP] at hpb hpi ⊢
  have htb := hpb.take N (by omega)
  have hti := take_in hst N P hpi hpb.val
  have hts : sm (takeL N P) ≤ N := by
    rw [sm_take _ _ hpb.val (by omega)]
    split <;> omega
  obtain ⟨T, hT⟩ : ∃ T, takeL N P = T := ⟨_, rfl⟩
  rw [hT] at htb hti hts ⊢
  have hC : cutL P 0 N = T := by rw [hpb.cut0, hT]
  obtain ⟨G, hG⟩ : ∃ G, scF r k gb 0 T F = G := ⟨_, rfl⟩
  obtain ⟨Z, hZ⟩ : ∃ Z, sm T = Z := ⟨_, rfl⟩
  rw [hG, hZ]
  rw [hZ] at hts
  have h1 : (inL r k l == 0) = true := by simp [hi]
  have hlen : l.length ≤ 64 := hbuf.len
  have lP : P.length ≤ 64 := hpb.len
  have lT : T.length ≤ 64 := htb.len
  have hz : l.length ≤ 1000000 := by omega
  have HM := Lib.hid hM
  have HL := Lib.hid h
  have HS := Lib.hid hsrc
  have HR := Lib.hid hrow
  have HE := Lib.hid (And.intro hP (And.intro hC (And.intro hG hZ)))
  have HB := Lib.hid (And.intro hbuf (And.intro hpb htb))
  have HI := Lib.hid hti
  have HNE := Lib.hid hne
  have hltb := hM.lt
  clear hM h hsrc hrow hP hC hG hZ hT hbuf hpb htb hti hpi hst hk hne hraw
  go_enter Try.func80, Try.ntmps80
  go_wp2_with fail
  (with_reducible refine (in_any A c l _ HM.out hz HB.out.1.raw HL.out).mono ?_)
  rintro e W1 ⟨rfl, hg1⟩
  have L1 := Lib.hid (lon HL.out hg1)
  have hs1 := hg1.size
  have hb1 := hg1
  clear hg1
  rw [hi]
  clear h1 hi
  go_wp2_with fail
  (with_reducible refine (part_any A c l true _ hz HB.out.1.raw L1.out).mono ?_)
  rw [HE.out.1]
  rintro e W2 ⟨A3, c3', rfl, h2, hc2, hg2⟩
  have hb2 : Below w.heap.size w W2 := hb1.trans (hg2.mono hs1)
  have hs2 := hg2.size
  have L2 := Lib.hid h2
  clear h2 hc2 hg2
  go_wp2_with fail
  (with_reducible refine (cut_any A3 c3' P 0 N _ (by omega) HB.out.2.1.raw L2.out (by decide) (by decide) (by omega) (by omega)).mono ?_)
  rw [HE.out.2.1]
  rintro e W3 ⟨A4, c4, rfl, h3, hc3, hg3⟩
  have hb3 : Below w.heap.size w W3 := hb2.trans (hg3.mono (by omega))
  have hs3 := hg3.size
  have L3 := Lib.hid h3
  have HA4 := Lib.hid hc3.2.2.1
  clear h3 hc3 hg3
  go_wp2_with fail
  obtain ⟨TN, hTN⟩ : ∃ TN, T.length = TN := ⟨_, rfl⟩
  have HTN := Lib.hid hTN
  rw [hTN] at lT
  simp only [hTN]
  clear hTN
  have hg0 := only_of_below hb3 (some b3)
  have HR3 := Lib.hid (HR.out.of_block (hb3.block b3 hltb))
  go_loopw [9, 27] (fun p i wr => ∃ (j q : Nat) (Fj : Nat → Value), j ≤ TN ∧ p = .int .i64 q ∧ i = .int .i64 j ∧ (q : Int) + sm (T.drop j) = Z ∧ wr.rowIs b3 t M Fj ∧ scF r k gb q (T.drop j) Fj = G ∧ W3.grownBy wr (some b3)) (fun p i wr => TN - (intOf i).toNat)
  case atStart => exact ⟨0, 0, F, by omega, rfl, rfl, by simpa using HE.out.2.2.2, HR3.out, by simpa using HE.out.2.2.1, ⟨rfl, rfl, rfl, Nat.le_refl _, fun _ _ _ => rfl⟩⟩
  case round =>
    obtain ⟨j, q, Fj, hjn, rfl, rfl, hq, hrow, hsc, hg⟩ := hrel
    have hsw := hg.size
    by_cases hlt : j < TN
    · have hT3 : Lst wr wr.heap.size A4 T := row_other L3.out hg (fun _ ad e => by have := HA4.out ad e; omega)
      obtain ⟨ad, rfl, had, d0, d1, d2⟩ := el (k := j) hT3 (by rw [HTN.out]; exact hlt)
      have hxv := HB.out.2.2.val _ (at_mem T (show j < T.length by rw [HTN.out]; exact hlt))
      have hxi : (place r k (at_ T j).a (at_ T j).n).isSome = true := List.all_eq_true.1 HI.out _ (at_mem T (show j < T.length by rw [HTN.out]; exact hlt))
      rw [drop_at T (by rw [HTN.out]; exact hlt)] at hq hsc
      rw [sm_cons] at hq
      rw [scF_cons] at hsc
      have hd0 : 0 ≤ sm (T.drop (j + 1)) := sm_nonneg fun x hx => HB.out.2.2.val x (List.mem_of_mem_drop hx)
      obtain ⟨x, hx⟩ : ∃ x, at_ T j = x := ⟨_, rfl⟩
      rw [hx] at d0 d1 d2 hxv hxi hq hsc
      obtain ⟨r0, r1, r2, r3⟩ := hxv
      obtain ⟨a, n, b⟩ := x
      simp only at d0 d1 d2 r0 r1 r2 r3 hxi hq hsc
      obtain ⟨X, rfl⟩ : ∃ X : Nat, n = (X : Int) := ⟨n.toNat, by omega⟩
      simp only [Int.toNat_natCast] at hsc
      obtain ⟨o, ho⟩ := Option.isSome_iff_exists.1 hxi
      rw [ho, Option.getD_some] at hsc
      have hqN : q + X ≤ N := by omega
      have HQ := Lib.hid (And.intro hq (And.intro hsc ho))
      have HRW := Lib.hid hrow
      have HMw := Lib.hid (((HM.out.below hb3).only hg).below ((Below.refl wr.heap.size wr).alloc (Nat.le_refl _) (.cells #[.int .u64 a, .int .u32 X, .bool b] 102)))
      have hSw : IsRow wr wr.heap.size 1 AB N (fun j => .int .u8 (gb j)) := row_other ((IsRow.below HS.out hb3).more (by omega)) hg HNE.out
      obtain ⟨adb, rfl, hadb, hcb⟩ := hSw (by omega)
      have HSB := Lib.hid (And.intro hadb hcb)
      have HG := Lib.hid hg
      clear hx hq hsc ho hxi hrow hT3 hSw hg hcb hd0
      go_wp2_with fail
      have y0 : (wr.alloc (.cells #[.int .u64 a, .int .u32 X, .bool b] 102)).cell? ⟨wr.heap.size, 0, none⟩ = some (.int .u64 a) := by go_cell
      have g4 : Below wr.heap.size wr (wr.alloc (.cells #[.int .u64 a, .int .u32 X, .bool b] 102)) := (Below.refl _ _).alloc (Nat.le_refl _) _
      generalize (wr.alloc (.cells #[.int .u64 a, .int .u32 X, .bool b] 102)) = W4 at HMw y0 g4 ⊢
      have hcq : ¬ cb = q := by omega
      have hB1 : 0 ≤ (q : Int) + X ∧ (q : Int) + X ≤ cb := by omega
      have hB2 : ((q : Int) + X).toNat = q + X := by omega
      go_still_tail 7, (by kernel_rfl)
      change wpList _ _ _ _ _ W4.drew
      clear y0 hB1 hB2
      go_wp2_with fail
      have hMd : Mm W4.drew m k g1 b3 A2 c1 c2 n3 c3 r := HMw.out.below ((Below.refl _ _).drew)
      have hrd : W4.drew.rowIs b3 t M Fj := HRW.out.of_block (g4.block b3 HRW.out.lt)
      have hsd : IsRow W4.drew W4.drew.heap.size 1 (some (adb.add q)) X (fun j => .int .u8 (gb (q + j))) := fun _ => by
        obtain ⟨k1, k2⟩ := HSB.out
        refine ⟨_, rfl, by rw [block_of_add]; exact Nat.lt_of_lt_of_le k1 g4.size, fun j hj => ?_⟩
        rw [add_of_add]
        exact (g4.cell (p := adb.add (q + j)) (by rw [block_of_add]; exact k1)).trans (k2 _ (by omega))
      (with_reducible refine (write_yes k m g1 b3 X (cb - q) M o t (some (adb.add q)) a r Fj (fun j => gb (q + j)) W4.drew hMd.k1 hMd.rin hMd.fit hMd.n3c hMd.n3b hMd.mem hMn hrd hsd r0 (by omega) (by omega) (by omega) HQ.out.2.2).mono ?_)
      rintro e W5 ⟨rfl, hrow5, hg5⟩
      have hgw : W3.grownBy W5 (some b3) := only_trans (only_trans HG.out (only_drew (only_of_below g4 _))) hg5
      have H5 := Lib.hid (And.intro hrow5 hgw)
      clear hMd hrd hsd hrow5 hg5 hgw
      go_wp2_with fail
      go_roundw
      case rel => exact ⟨j + 1, q + X, _, by omega, by go_num, by go_num, by have := HQ.out.1; omega, H5.out.1, HQ.out.2.1, H5.out.2⟩
      case measure => simp [intOf]; omega
    · obtain rfl : j = TN := by omega
      rw [List.drop_eq_nil_of_le (by rw [HTN.out]; omega)] at hq hsc
      have e1 : sm ([] : List S3) = 0 := rfl
      have e2 : scF r k gb q [] Fj = Fj := rfl
      rw [e1] at hq
      rw [e2] at hsc
      subst hsc
      obtain rfl : (q : Int) = Z := by omega
      have H := Lib.hid (And.intro hrow (only_trans hg0 hg))
      clear hrow hg hq
      go_wp2_with fail
      go_returns
      exact ⟨rfl, H.out.1, H.out.2⟩

end Go.Proofs.Ytohopmccggggbaa.SgScat
