/- Segments in a pair of memories: where parts of them lie; Scatter of the program. -/
import Derived.Test.YtkejcdephnkkgaaSgMem
import Derived.Test.YtkejcdephnkkgaaSgR2
import Derived.StillTailTactics
namespace Go.Proofs.Ytkejcdephnkkgaa.SgScp
open Go.RowKit Rw Sg SgCheck SgTake SgTotal SgCut SgMath SgR2 GmFind GmWord GmRefP GmTwo SgPair SgMem
set_option linter.unusedVariables false
set_option linter.unusedSimpArgs false

theorem idx_lo (r : Rg) (a : Int) : ∀ (k j : Nat), j < idx r a k → r.end_ j < a
  | 0, j, h => by unfold idx at h; omega
  | k + 1, j, h => by
    unfold idx at h
    split at h
    · exact idx_lo r a k j h
    · rename_i h1
      split at h
      · by_cases hj : j < idx r a k
        · exact idx_lo r a k j hj
        · omega
      · rename_i h2
        by_cases hj : j < idx r a k
        · exact idx_lo r a k j hj
        · obtain rfl : j = k := by omega
          omega
theorem place_sub {r : Rg} {k o : Nat} {a n a' n' : Int} (hf : ∀ i, i < k → 0 ≤ r.st i) (h : place r k a n = some o) (h1 : a ≤ a') (h2 : a' + n' ≤ a + n) (h3 : 1 ≤ n') : place r k a' n' = some (o + (a' - a).toNat) := by
  unfold place at h
  by_cases ho : okB r k (idx r a k) a n = true
  · rw [if_pos ho] at h
    injection h with h
    obtain ⟨i, hi⟩ : ∃ i, idx r a k = i := ⟨_, rfl⟩
    have hlo := fun j => idx_lo r a k j
    rw [hi] at ho h hlo
    unfold okB at ho
    simp only [Bool.and_eq_true, decide_eq_true_eq] at ho
    obtain ⟨⟨⟨k1, k2⟩, k3⟩, k4⟩ := ho
    have e : idx r a' k = i := idx_eq r a' k i (by omega) (fun j hj => by have := hlo j hj; omega) (fun _ => by omega)
    unfold place
    rw [e, if_pos (by unfold okB; simp only [Bool.and_eq_true, decide_eq_true_eq]; exact ⟨⟨⟨k1, by omega⟩, h3⟩, by omega⟩)]
    have := hf i k1
    congr 1
    omega
  · rw [if_neg ho] at h
    cases h

theorem take_in {r : Rg} {k : Nat} (hf : ∀ i, i < k → 0 ≤ r.st i) (n : Int) (l : List S3) (h : allIn r k l = true) (hv : ∀ x ∈ l, x.Val) : allIn r k (takeL n l) = true := by
  induction l generalizing n with
  | nil => rfl
  | cons y t ih =>
    rw [allIn_cons, Bool.and_eq_true] at h
    rw [takeL_cons]
    split
    · rfl
    · split
      · rw [allIn_cons]
        obtain ⟨o, ho⟩ := Option.isSome_iff_exists.1 h.1
        rw [place_sub (a' := y.a) (n' := n) hf ho (by omega) (by omega) (by omega)]
        rfl
      · rw [allIn_cons, h.1, ih _ h.2 (fun x hx => hv x (by simp [hx]))]
        rfl
theorem drop_in {r : Rg} {k : Nat} (hf : ∀ i, i < k → 0 ≤ r.st i) (n : Int) (l : List S3) (h : allIn r k l = true) (hv : ∀ x ∈ l, x.Val) : allIn r k (dropL n l) = true := by
  induction l generalizing n with
  | nil => rfl
  | cons y t ih =>
    have h0 := h
    rw [allIn_cons, Bool.and_eq_true] at h
    rw [dropL_cons]
    split
    · exact h0
    · split
      · rw [allIn_cons]
        obtain ⟨o, ho⟩ := Option.isSome_iff_exists.1 h.1
        rw [place_sub (a' := y.a + n) (n' := y.n - n) hf ho (by omega) (by omega) (by omega), h.2]
        rfl
      · exact ih _ h.2 (fun x hx => hv x (by simp [hx]))
theorem part_in {r : Rg} {k : Nat} (hf : ∀ i, i < k → 0 ≤ r.st i) (b : Bool) {l : List S3} (h : allIn r k l = true) (hb : Buf l) : allIn r k (partL l b) = true := by
  unfold partL
  split
  · rw [hb.cut]; exact take_in hf _ _ (drop_in hf _ _ h hb.val) (hb.drop _ hb.rd0).val
  · rw [hb.cut0]; exact take_in hf _ _ h hb.val
theorem part_buf (b : Bool) {l : List S3} (hb : Buf l) : Buf (partL l b) := by
  unfold partL
  split
  · rw [hb.cut]; exact (hb.drop _ hb.rd0).take _ hb.wr0
  · rw [hb.cut0]; exact hb.take _ hb.rd0


/-- Only blocks from B to below top have turned. -/
structure Chg (B top : Nat) (W W' : World) : Prop where
  os : W'.os = W.os
  tape : W'.tape = W.tape
  output : W'.output = W.output
  size : W.heap.size ≤ W'.heap.size
  block : ∀ i, i < W.heap.size → (i < B ∨ top ≤ i) → W'.heap[i]? = W.heap[i]?
theorem Chg.refl (B top : Nat) (W : World) : Chg B top W W := ⟨rfl, rfl, rfl, Nat.le_refl _, fun _ _ _ => rfl⟩
theorem Chg.trans {B top : Nat} {a b c : World} (h : Chg B top a b) (k : Chg B top b c) : Chg B top a c :=
  ⟨k.os.trans h.os, k.tape.trans h.tape, k.output.trans h.output, Nat.le_trans h.size k.size, fun i hi hne => (k.block i (Nat.lt_of_lt_of_le hi h.size) hne).trans (h.block i hi hne)⟩
theorem Chg.of_below {B top : Nat} {a b : World} (h : Below a.heap.size a b) : Chg B top a b := ⟨h.os, h.tape, h.output, h.size, fun i hi _ => h.block i hi⟩
theorem Chg.of_turned {B top : Nat} {a b : World} (h : Turned B top a b) : Chg B top a b := by
  obtain ⟨g, h1, h2, h3⟩ := h
  exact ⟨h3.os, h3.tape, h3.output, h3.size, fun i hi hne => h3.block i hi (fun e => by injection e with e; omega)⟩
theorem Chg.below {B top : Nat} {a b : World} (h : Chg B top a b) (hB : B ≤ a.heap.size) : Below B a b := ⟨h.os, h.tape, h.output, h.size, fun i hi => h.block i (by omega) (.inl hi)⟩
theorem Chg.row {B top : Nat} {W W' : World} (h : Chg B top W W') {s n : Nat} {A : Option Addr} {F : Nat → Value} (hr : IsRow W W.heap.size s A n F) (hA : 0 < n → ∀ ad, A = some ad → ad.block < B ∨ top ≤ ad.block) : IsRow W' W'.heap.size s A n F := fun hn => by
  obtain ⟨ad, e, hlt, hc⟩ := hr hn
  exact ⟨ad, e, Nat.lt_of_lt_of_le hlt h.size, fun j hj => (World.cell?_of_block (a := ad.add j) (by rw [block_of_add]; exact h.block _ hlt (hA hn ad e))).trans (hc j hj)⟩

/-- The bytes when bytes have been written to segments, one after the other. -/
def scG (P : Nums) (gb : Nat → Int) : Nat → List S3 → (Nat → Int) → (Nat → Int)
  | _, [], g => g
  | q, x :: l, g => scG P gb (q + x.n.toNat) l (putG g ((place P.r P.k x.a x.n).getD 0) x.n.toNat (fun j => gb (q + j)))
theorem scG_cons (P : Nums) (gb : Nat → Int) (q : Nat) (x : S3) (l : List S3) (g : Nat → Int) : scG P gb q (x :: l) g = scG P gb (q + x.n.toNat) l (putG g ((place P.r P.k x.a x.n).getD 0) x.n.toNat (fun j => gb (q + j))) := rfl

theorem inL_ok {r : Rg} {k : Nat} {l : List S3} (h : inL r k l = 0) : checkL l = 0 ∧ allIn r k l = true := by
  unfold inL at h
  by_cases hc : checkL l = 0
  · rw [if_pos hc] at h
    refine ⟨hc, ?_⟩
    cases ha : allIn r k l with
    | true => rfl
    | false => rw [ha] at h; exact absurd h (by decide)
  · rw [if_neg hc] at h
    exact absurd h hc

set_option maxRecDepth 100000 in
set_option maxHeartbeats 4000000 in
theorem scatter_p_bad {P : Nums} {S top : Nat} {T : World → (Nat → Int) → (Nat → Int) → Prop} (hP : Pair P S top T) (gp gd : Nat → Int) (A : Option Addr) (c : Nat) (l : List S3) (v : Value) (w : World) (hM : T w gp gd) (hn : l.length ≤ 1000000) (hraw : ∀ x ∈ l, x.Raw) (h : Lst w w.heap.size A l) (hi : inL P.r P.k l ≠ 0) :
    Calls Try.prog 24 #[.pointer (some ⟨P.m, 0, none⟩), .slice A l.length c, v] w fun e w' => e = .returned (.tuple #[.int .i64 0, .int .i64 (inL P.r P.k l)]) ∧ Below w.heap.size w w' := by
  have hb0 : Below w.heap.size w w := Below.refl _ _
  have h1 : (inL P.r P.k l == 0) = false := by simp [hi]
  have HM := Lib.hid hM
  have HL := Lib.hid h
  clear hM h hi
  go_enter Try.func24, Try.ntmps24
  go_wp2_with fail
  refine (in_p hP gp gd A c l _ HM.out hn hraw HL.out).mono ?_
  rintro eE W1 ⟨rfl, hg1⟩
  have hb1 : Below w.heap.size w W1 := (show Below w.heap.size w _ by go_grown).trans (hg1.mono (by first | omega | go_size))
  obtain ⟨hc1, hf1⟩ := bcell hg1
  have hs1 := hg1.size
  try simp only [World.size_alloc, World.size_setCell, World.size_drew] at hs1
  clear hg1 hc1 hf1
  go_wp2_with fail
  go_returns
  exact ⟨rfl, by go_grown⟩

set_option maxRecDepth 100000 in
set_option maxHeartbeats 8000000 in
theorem scatter_p {P : Nums} {S top : Nat} {TT : World → (Nat → Int) → (Nat → Int) → Prop} (hPair : Pair P S top TT) (hst : ∀ i, i < P.k → 0 ≤ P.r.st i) (gp gd : Nat → Int) (A : Option Addr) (c : Nat) (l : List S3) (AB : Option Addr) (N cb : Nat) (gb : Nat → Int) (w : World) (hM : TT w gp gd) (htop : top ≤ w.heap.size)
    (hraw : ∀ x ∈ l, x.Raw) (h : Lst w w.heap.size A l) (hi : inL P.r P.k l = 0)
    (hsrc : IsRow w w.heap.size 1 AB N (fun j => .int .u8 (gb j))) (hgb : ∀ j, 0 ≤ gb j ∧ gb j ≤ 255) (hN : N ≤ cb) (hN2 : N ≤ 20000) (hAB : 0 < N → ∀ ad, AB = some ad → ad.block < P.B ∨ top ≤ ad.block) :
    Calls Try.prog 24 #[.pointer (some ⟨P.m, 0, none⟩), .slice A l.length c, .slice AB N cb] w fun e w' => e = .returned (.tuple #[.int .i64 (sm (takeL N (partL l true))), .int .i64 0]) ∧ TT w' (scG P gb 0 (takeL N (partL l true)) gp) gd ∧ Chg P.B top w w' := by
  have hb0 : Below w.heap.size w w := Below.refl _ _
  have hk := inL_ok hi
  have hbuf := Buf.of hraw hk.1
  have hpb := part_buf true hbuf
  have hpi := part_in hst true hk.2 hbuf
  obtain ⟨Q, hQ⟩ : ∃ Q, partL l true = Q := ⟨_, rfl⟩
  rw [hQ] at hpb hpi ⊢
  have htb := hpb.take N (by omega)
  have hti := take_in hst N Q hpi hpb.val
  have hts : sm (takeL N Q) ≤ N := by
    rw [sm_take _ _ hpb.val (by omega)]
    split <;> omega
  obtain ⟨T, hT⟩ : ∃ T, takeL N Q = T := ⟨_, rfl⟩
  rw [hT] at htb hti hts ⊢
  have hC : cutL Q 0 N = T := by rw [hpb.cut0, hT]
  obtain ⟨G, hG⟩ : ∃ G, scG P gb 0 T gp = G := ⟨_, rfl⟩
  obtain ⟨Z, hZ⟩ : ∃ Z, sm T = Z := ⟨_, rfl⟩
  rw [hG, hZ]
  rw [hZ] at hts
  have h1 : (inL P.r P.k l == 0) = true := by simp [hi]
  have hlen : l.length ≤ 64 := hbuf.len
  have lP : Q.length ≤ 64 := hpb.len
  have lT : T.length ≤ 64 := htb.len
  have hz : l.length ≤ 1000000 := by omega
  have HM := Lib.hid hM
  have HL := Lib.hid h
  have HS := Lib.hid hsrc
  have HE := Lib.hid (And.intro hQ (And.intro hC (And.intro hG hZ)))
  have HB := Lib.hid (And.intro hbuf (And.intro hpb htb))
  have HI := Lib.hid hti
  have HAB := Lib.hid hAB
  have HGB := Lib.hid hgb
  clear hM h hsrc hQ hC hG hZ hT hbuf hpb htb hti hpi hst hk hraw hAB hgb
  go_enter Try.func24, Try.ntmps24
  go_wp2_with fail
  (with_reducible refine (in_p hPair gp gd A c l _ HM.out hz HB.out.1.raw HL.out).mono ?_)
  rintro e W1 ⟨rfl, hg1⟩
  have L1 := Lib.hid (lon HL.out hg1)
  have hs1 := hg1.size
  have hb1 := hg1
  clear hg1
  rw [hi]
  clear h1 hi
  go_wp2_with fail
  (with_reducible refine (part_any A c l true _ hz HB.out.1.raw L1.out).mono ?_)
  rw [HE.out.1]
  rintro e W2 ⟨A3, c3', rfl, h2, hc2, hg2⟩
  have hb2 : Below w.heap.size w W2 := hb1.trans (hg2.mono hs1)
  have hs2 := hg2.size
  have L2 := Lib.hid h2
  clear h2 hc2 hg2
  go_wp2_with fail
  (with_reducible refine (cut_any A3 c3' Q 0 N _ (by omega) HB.out.2.1.raw L2.out (by decide) (by decide) (by omega) (by omega)).mono ?_)
  rw [HE.out.2.1]
  rintro e W3 ⟨A4, c4, rfl, h3, hc3, hg3⟩
  have hb3 : Below w.heap.size w W3 := hb2.trans (hg3.mono (by omega))
  have hs3 := hg3.size
  have L3 := Lib.hid h3
  have HA4 := Lib.hid hc3.2.2.1
  clear h3 hc3 hg3
  go_wp2_with fail
  obtain ⟨TN, hTN⟩ : ∃ TN, T.length = TN := ⟨_, rfl⟩
  have HTN := Lib.hid hTN
  rw [hTN] at lT
  simp only [hTN]
  clear hTN
  have HM3 := Lib.hid (hPair.below HM.out hb3)
  go_loopw [9, 27] (fun p i wr => ∃ (j q : Nat) (gj : Nat → Int), j ≤ TN ∧ p = .int .i64 q ∧ i = .int .i64 j ∧ (q : Int) + sm (T.drop j) = Z ∧ Hid (TT wr gj gd) ∧ Hid (scG P gb q (T.drop j) gj = G) ∧ Hid (Chg P.B top W3 wr)) (fun p i wr => TN - (intOf i).toNat)
  case atStart => exact ⟨0, 0, gp, by omega, rfl, rfl, by simpa using HE.out.2.2.2, HM3, Lib.hid (by simpa using HE.out.2.2.1), Lib.hid (Chg.refl _ _ _)⟩
  case round =>
    obtain ⟨j, q, gj, hjn, rfl, rfl, hq, HTw, HSC, HG⟩ := hrel
    have hsw := HG.out.size
    by_cases hlt : j < TN
    · have hT3 : Lst wr wr.heap.size A4 T := HG.out.row L3.out (fun _ ad e => .inr (by have := HA4.out ad e; omega))
      obtain ⟨ad, rfl, had, d0, d1, d2⟩ := el (k := j) hT3 (by rw [HTN.out]; exact hlt)
      have hxv := HB.out.2.2.val _ (at_mem T (show j < T.length by rw [HTN.out]; exact hlt))
      have hxi : (place P.r P.k (at_ T j).a (at_ T j).n).isSome = true := List.all_eq_true.1 HI.out _ (at_mem T (show j < T.length by rw [HTN.out]; exact hlt))
      have hsc := HSC.out
      rw [drop_at T (by rw [HTN.out]; exact hlt)] at hq hsc
      rw [sm_cons] at hq
      rw [scG_cons] at hsc
      have hd0 : 0 ≤ sm (T.drop (j + 1)) := sm_nonneg fun x hx => HB.out.2.2.val x (List.mem_of_mem_drop hx)
      obtain ⟨x, hx⟩ : ∃ x, at_ T j = x := ⟨_, rfl⟩
      rw [hx] at d0 d1 d2 hxv hxi hq hsc
      obtain ⟨r0, r1, r2, r3⟩ := hxv
      obtain ⟨a, n, b⟩ := x
      simp only at d0 d1 d2 r0 r1 r2 r3 hxi hq hsc
      obtain ⟨X, rfl⟩ : ∃ X : Nat, n = (X : Int) := ⟨n.toNat, by omega⟩
      simp only [Int.toNat_natCast] at hsc
      obtain ⟨o, ho⟩ := Option.isSome_iff_exists.1 hxi
      rw [ho, Option.getD_some] at hsc
      have hqN : q + X ≤ N := by omega
      have HQ := Lib.hid (And.intro hq (And.intro hsc ho))
      have ua : u64in a := ⟨r0, by omega⟩
      have HMw := Lib.hid (hPair.below HTw.out ((Below.refl wr.heap.size wr).alloc (Nat.le_refl _) (.cells #[.int .u64 a, .int .u32 X, .bool b] 73)))
      have hSw : IsRow wr wr.heap.size 1 AB N (fun j => .int .u8 (gb j)) := HG.out.row ((IsRow.below HS.out hb3).more (by omega)) HAB.out
      obtain ⟨adb, rfl, hadb, hcb⟩ := hSw (by omega)
      have HSB := Lib.hid (And.intro hadb hcb)
      clear hx hq hsc ho hxi hT3 hSw hcb hd0 HSC HTw
      go_wp2_with fail
      have y0 : (wr.alloc (.cells #[.int .u64 a, .int .u32 X, .bool b] 73)).cell? ⟨wr.heap.size, 0, none⟩ = some (.int .u64 a) := by go_cell
      have g4 : Below wr.heap.size wr (wr.alloc (.cells #[.int .u64 a, .int .u32 X, .bool b] 73)) := (Below.refl _ _).alloc (Nat.le_refl _) _
      generalize (wr.alloc (.cells #[.int .u64 a, .int .u32 X, .bool b] 73)) = W4 at HMw y0 g4 ⊢
      have hcq : ¬ cb = q := by omega
      have hB1 : 0 ≤ (q : Int) + X ∧ (q : Int) + X ≤ cb := by omega
      have hB2 : ((q : Int) + X).toNat = q + X := by omega
      go_still_tail 7, (by kernel_rfl)
      change wpList _ _ _ _ _ W4.drew
      clear y0 hB1 hB2
      go_wp2_with fail
      have hMd : TT W4.drew gj gd := hPair.below HMw.out ((Below.refl _ _).drew)
      have hsd : IsRow W4.drew W4.drew.heap.size 1 (some (adb.add q)) X (fun j => .int .u8 (gb (q + j))) := fun _ => by
        obtain ⟨k1, k2⟩ := HSB.out
        refine ⟨_, rfl, by rw [block_of_add]; exact Nat.lt_of_lt_of_le k1 g4.size, fun j hj => ?_⟩
        rw [add_of_add]
        exact (g4.cell (p := adb.add (q + j)) (by rw [block_of_add]; exact k1)).trans (k2 _ (by omega))
      have hwr := hPair.pwrite a (some (adb.add q)) X (cb - q) (fun j => gb (q + j)) (putG gj o X (fun j => gb (q + j))) 0 W4.drew gj gd hMd ua (by omega) (fun j => HGB.out _) hsd (.inr (.inr ⟨by omega, o, HQ.out.2.2, rfl, rfl⟩))
      (with_reducible refine hwr.mono ?_)
      rintro e W5 ⟨rfl, hT5, hg5⟩
      have hgw : Chg P.B top W3 W5 := (HG.out.trans (Chg.of_below (g4.drew))).trans (Chg.of_turned hg5)
      have H5 := Lib.hid (And.intro hT5 hgw)
      clear hMd hsd hg5 hgw hT5 hwr
      go_wp2_with fail
      go_roundw
      case rel => exact ⟨j + 1, q + X, _, by omega, by go_num, by go_num, by have := HQ.out.1; omega, Lib.hid H5.out.1, Lib.hid HQ.out.2.1, Lib.hid H5.out.2⟩
      case measure => simp [intOf]; omega
    · obtain rfl : j = TN := by omega
      have hsc := HSC.out
      rw [List.drop_eq_nil_of_le (by rw [HTN.out]; omega)] at hq hsc
      have e1 : sm ([] : List S3) = 0 := rfl
      have e2 : scG P gb q [] gj = gj := rfl
      rw [e1] at hq
      rw [e2] at hsc
      subst hsc
      obtain rfl : (q : Int) = Z := by omega
      have H := Lib.hid (And.intro HTw.out ((Chg.of_below hb3).trans HG.out))
      clear HTw HG hq HSC
      go_wp2_with fail
      go_returns
      exact ⟨rfl, H.out.1, H.out.2⟩

end Go.Proofs.Ytkejcdephnkkgaa.SgScp
