/- Scatter of the document over a pair of memories. -/
import Derived.Test.YtkejcdephnkkgaaSgScp
import Derived.Deep.RegionHeld3
namespace Go.Proofs.Ytkejcdephnkkgaa.SgScd
open Go.RowKit Rw Sg SgCheck SgTake SgTotal SgCut SgMath SgR2 GmFind GmWord GmRefP GmTwo SgPair SgMem SgScp
set_option linter.unusedVariables false
set_option linter.unusedSimpArgs false

theorem take_zero (l : List S3) : takeL 0 l = [] := by
  cases l with
  | nil => rfl
  | cons x r => rw [takeL_cons', if_pos (by decide)]
theorem take_step {R K : Int} {x : S3} {t : List S3} (h0 : 0 < K) (hK : K = if x.n < R then x.n else R) : takeL R (x :: t) = ⟨x.a, K, x.w⟩ :: takeL (R - K) t := by
  rw [takeL_cons']
  split at hK
  · subst hK
    rw [if_neg (by omega), if_neg (by omega)]
  · subst hK
    rw [if_neg (by omega)]
    by_cases h : K < x.n
    · rw [if_pos h, show K - K = 0 by omega, take_zero]
    · have e : x.n = K := by omega
      rw [if_neg h, e]
      obtain ⟨xa, xn, xw⟩ := x
      simp only at e
      subst e
      rfl
/-- What is left of the bytes, what is left of the segments. -/
def lft (N q : Nat) (l : List S3) : List S3 := takeL ((N : Int) - (q : Int)) (onlyL true l)
theorem lft_not {N q : Nat} {x : S3} {l : List S3} (h : x.w = false) : lft N q (x :: l) = lft N q l := by
  unfold lft
  rw [only_cons, h, if_neg (by decide)]
theorem lft_none {N : Nat} (l : List S3) : lft N N l = [] := by
  unfold lft
  rw [show (N : Int) - (N : Int) = 0 by omega, take_zero]
theorem lft_one {N q K : Nat} {x : S3} {l : List S3} (h : x.w = true) (h0 : 0 < K) (hq : q ≤ N) (hK : (K : Int) = if x.n < (N : Int) - q then x.n else (N : Int) - q) : lft N q (x :: l) = ⟨x.a, K, x.w⟩ :: lft N (q + K) l := by
  unfold lft
  rw [only_cons, h, if_pos rfl, take_step (K := (K : Int)) (by omega) hK, h]
  congr 2
  omega

set_option maxRecDepth 100000 in
set_option maxHeartbeats 4000000 in
theorem scatter_d_bad {P : Nums} {S top : Nat} {T : World → (Nat → Int) → (Nat → Int) → Prop} (hP : Pair P S top T) (gp gd : Nat → Int) (A : Option Addr) (c : Nat) (l : List S3) (v : Value) (w : World) (hM : T w gp gd) (hn : l.length ≤ 1000000) (hraw : ∀ x ∈ l, x.Raw) (h : Lst w w.heap.size A l) (hi : inL P.r P.k l ≠ 0) :
    Calls Try.prog 27 #[.pointer (some ⟨P.mm, 0, none⟩), .slice A l.length c, v] w fun e w' => e = .returned (.tuple #[.int .i64 0, .int .i64 (inL P.r P.k l)]) ∧ Below w.heap.size w w' := by
  have hb0 : Below w.heap.size w w := Below.refl _ _
  have h1 : (inL P.r P.k l == 0) = false := by simp [hi]
  have HM := Lib.hid hM
  have HL := Lib.hid h
  clear hM h hi
  go_enter Try.func27, Try.ntmps27
  go_wp2_with fail
  refine (in_d hP gp gd A c l _ HM.out hn hraw HL.out).mono ?_
  rintro eE W1 ⟨rfl, hg1⟩
  have hb1 : Below w.heap.size w W1 := (show Below w.heap.size w _ by go_grown).trans (hg1.mono (by first | omega | go_size))
  obtain ⟨hc1, hf1⟩ := bcell hg1
  have hs1 := hg1.size
  try simp only [World.size_alloc, World.size_setCell, World.size_drew] at hs1
  clear hg1 hc1 hf1
  go_wp2_with fail
  go_returns
  exact ⟨rfl, by go_grown⟩

set_option maxRecDepth 100000 in
set_option maxHeartbeats 16000000 in
theorem scatter_d {P : Nums} {S top : Nat} {TT : World → (Nat → Int) → (Nat → Int) → Prop} (hPair : Pair P S top TT) (hst : ∀ i, i < P.k → 0 ≤ P.r.st i) (gp gd : Nat → Int) (A : Option Addr) (c : Nat) (l : List S3) (AB : Option Addr) (N cb : Nat) (gb : Nat → Int) (w : World) (hM : TT w gp gd) (htop : top ≤ w.heap.size)
    (hraw : ∀ x ∈ l, x.Raw) (h : Lst w w.heap.size A l) (hi : inL P.r P.k l = 0) (hA : 0 < l.length → ∀ ad, A = some ad → ad.block < P.B ∨ top ≤ ad.block)
    (hsrc : IsRow w w.heap.size 1 AB N (fun j => .int .u8 (gb j))) (hgb : ∀ j, 0 ≤ gb j ∧ gb j ≤ 255) (hN : N ≤ cb) (hN2 : N ≤ 20000) (hAB : 0 < N → ∀ ad, AB = some ad → ad.block < P.B ∨ top ≤ ad.block) :
    Calls Try.prog 27 #[.pointer (some ⟨P.mm, 0, none⟩), .slice A l.length c, .slice AB N cb] w fun e w' => e = .returned (.tuple #[.int .i64 (sm (lft N 0 l)), .int .i64 0]) ∧ TT w' gp (scG P gb 0 (lft N 0 l) gd) ∧ Chg P.B top w w' := by
  have hb0 : Below w.heap.size w w := Below.refl _ _
  have hk := inL_ok hi
  have hbuf := Buf.of hraw hk.1
  obtain ⟨G, hG⟩ : ∃ G, scG P gb 0 (lft N 0 l) gd = G := ⟨_, rfl⟩
  obtain ⟨Z, hZ⟩ : ∃ Z, sm (lft N 0 l) = Z := ⟨_, rfl⟩
  rw [hG, hZ]
  have h1 : (inL P.r P.k l == 0) = true := by simp [hi]
  have hlen : l.length ≤ 64 := hbuf.len
  have hz : l.length ≤ 1000000 := by omega
  have hcn := hPair.big hM
  have HM := Lib.hid hM
  have HL := Lib.hid h
  have HS := Lib.hid hsrc
  have HE := Lib.hid (And.intro hG hZ)
  have HB := Lib.hid hbuf
  have HI := Lib.hid hk.2
  have HA := Lib.hid hA
  have HAB := Lib.hid hAB
  have HGB := Lib.hid hgb
  have HST := Lib.hid hst
  clear hM h hsrc hG hZ hbuf hst hk hraw hA hAB hgb
  go_enter Try.func27, Try.ntmps27
  go_wp2_with fail
  (with_reducible refine (in_d hPair gp gd A c l _ HM.out hz HB.out.raw HL.out).mono ?_)
  rintro e W1 ⟨rfl, hg1⟩
  have hs1 := hg1.size
  have hb1 := Lib.hid hg1
  have L1 := Lib.hid (lon HL.out hg1)
  have HM1 := Lib.hid (hPair.below HM.out hg1)
  have S1 := Lib.hid ((IsRow.below HS.out hg1).more hs1)
  clear hg1
  rw [hi]
  clear h1 hi
  obtain ⟨LN, hLN⟩ : ∃ LN, l.length = LN := ⟨_, rfl⟩
  have HLN := Lib.hid hLN
  rw [hLN] at hlen
  simp only [hLN]
  clear hLN hz
  go_wp2_with fail
  go_loopw [9, 10] (fun p i wr => ∃ (j q : Nat) (gj : Nat → Int), j ≤ LN ∧ q ≤ N ∧ p = .int .i64 q ∧ i = .int .i64 j ∧ Hid ((q : Int) + sm (lft N q (l.drop j)) = Z) ∧ Hid (TT wr gp gj) ∧ Hid (scG P gb q (lft N q (l.drop j)) gj = G) ∧ Hid (Chg P.B top W1 wr)) (fun p i wr => LN - (intOf i).toNat)
  case atStart => exact ⟨0, 0, gd, by omega, by omega, rfl, rfl, Lib.hid (by simpa using HE.out.2), HM1, Lib.hid (by simpa using HE.out.1), Lib.hid (Chg.refl _ _ _)⟩
  case round =>
    obtain ⟨j, q, gj, hjn, hqN, rfl, rfl, HQ, HTw, HSC, HG⟩ := hrel
    have hsw := HG.out.size
    by_cases hlt : j < LN
    · have dj : decide ((j : Int) < (LN : Int)) = true := decide_eq_true (by omega)
      have hT3 : Lst wr wr.heap.size A l := HG.out.row L1.out (fun hp ad e => HA.out (by omega) ad e)
      obtain ⟨ad, rfl, had, d0, d1, d2⟩ := el (k := j) hT3 (by rw [HLN.out]; exact hlt)
      have had2 := HA.out (by rw [HLN.out]; omega) ad rfl
      have hxm := at_mem l (show j < l.length by rw [HLN.out]; exact hlt)
      have hxv := HB.out.val _ hxm
      have hxi : (place P.r P.k (at_ l j).a (at_ l j).n).isSome = true := List.all_eq_true.1 HI.out _ hxm
      have hq := HQ.out
      have hsc := HSC.out
      rw [drop_at l (by rw [HLN.out]; exact hlt)] at hq hsc
      obtain ⟨x, hx⟩ : ∃ x, at_ l j = x := ⟨_, rfl⟩
      rw [hx] at d0 d1 d2 hxv hxi hq hsc
      obtain ⟨r0, r1, r2, r3⟩ := hxv
      obtain ⟨a, n, b⟩ := x
      simp only at d0 d1 d2 r0 r1 r2 r3 hxi
      cases b with
      | false =>
        rw [lft_not rfl] at hq hsc
        have H := Lib.hid (And.intro hq hsc)
        clear hq hsc hxi hx HQ HSC hT3
        go_wp2_with fail
        go_roundw
        case rel => exact ⟨j + 1, q, gj, by omega, by omega, by go_num, by go_num, Lib.hid H.out.1, HTw, Lib.hid H.out.2, HG⟩
        case measure => simp [intOf]; omega
      | true =>
        obtain ⟨X, rfl⟩ : ∃ X : Nat, n = (X : Int) := ⟨n.toNat, by omega⟩
        obtain ⟨o, ho⟩ := Option.isSome_iff_exists.1 hxi
        have ua : u64in a := ⟨r0, by omega⟩
        obtain ⟨K, hK⟩ : ∃ K : Nat, (if (X : Int) < (N : Int) - (q : Int) then (X : Int) else (N : Int) - (q : Int)) = (K : Int) := ⟨(if (X : Int) < (N : Int) - (q : Int) then (X : Int) else (N : Int) - (q : Int)).toNat, by split <;> omega⟩
        have hKq : q + K ≤ N := by split at hK <;> omega
        have hKX : K ≤ X := by split at hK <;> omega
        have gX : IntKind.i64.wrap (X : Int) = (X : Int) := by rw [IntKind.wrap_i64]; omega
        have HD := Lib.hid (show W1.heap.size ≤ wr.heap.size ∧ (ad.block < P.B ∨ top ≤ ad.block) from ⟨hsw, had2⟩)
        have hSw : IsRow wr wr.heap.size 1 AB N (fun j => .int .u8 (gb j)) := HG.out.row S1.out HAB.out
        have kd0 : wr.drew.cell? (ad.add (j * 3)) = some (.int .u64 a) := d0
        have hMd : TT wr.drew gp gj := hPair.below HTw.out ((Below.refl _ _).drew)
        have HMd := Lib.hid hMd
        have HX := Lib.hid ho
        have HHq := Lib.hid (And.intro hq hsc)
        have HK := Lib.hid hK
        clear hq hsc hx hxi ho hMd hT3 HSC HQ had2
        have HEC := Lib.hid (show ∀ W, Turned P.B top wr.drew W → W.cell? (ad.add (j * 3)) = some (.int .u64 a) from by
          rintro W ⟨b, h1, h2, hg⟩
          obtain ⟨_, hd⟩ := HD.out
          exact hg.cell kd0 (fun e => by rw [block_of_add] at e; injection e with e; omega))
        obtain ⟨g', hwi, hz2, hsc2⟩ : ∃ g', WriteIs P gj a K (fun j => gb (q + j)) g' 0 ∧ (((q + K : Nat) : Int) + sm (lft N (q + K) (l.drop (j + 1))) = Z) ∧ scG P gb (q + K) (lft N (q + K) (l.drop (j + 1))) g' = G := by
          obtain ⟨hq, hsc⟩ := HHq.out
          by_cases hK0 : 0 < K
          · rw [lft_one rfl hK0 hqN hK.symm] at hq hsc
            rw [sm_cons] at hq
            rw [scG_cons] at hsc
            simp only [Int.toNat_natCast] at hq hsc
            have hp : place P.r P.k a (K : Int) = some o := by
              have := place_sub (a' := a) (n' := (K : Int)) HST.out HX.out (by omega) (by omega) (by omega)
              simpa using this
            rw [hp, Option.getD_some] at hsc
            exact ⟨_, .inr (.inr ⟨by omega, o, hp, rfl, rfl⟩), by omega, hsc⟩
          · obtain rfl : K = 0 := by omega
            obtain rfl : q = N := by split at hK <;> omega
            rw [lft_none] at hq hsc
            rw [Nat.add_zero, lft_none]
            exact ⟨gj, .inl ⟨rfl, rfl, rfl⟩, hq, hsc⟩
        have HWW := Lib.hid hwi
        have HN2 := Lib.hid (And.intro hz2 hsc2)
        have HC := Lib.hid (show ∀ A', IsRow wr.drew wr.drew.heap.size 1 A' K (fun j => .int .u8 (gb (q + j))) → Calls Try.prog 53 #[.pointer (some ⟨P.mm, 0, none⟩), .int .u64 a, .slice A' K (cb - q)] wr.drew fun x W' => x = .returned (.int .i64 0) ∧ TT W' gp g' ∧ Turned P.B top wr.drew W' from fun A' hr => hPair.dwrite a A' K (cb - q) (fun j => gb (q + j)) g' 0 wr.drew gp gj HMd.out ua (by omega) (fun j => HGB.out _) hr HWW.out)
        have hsz : W1.heap.size ≤ wr.drew.heap.size := hsw
        have hfin : ∀ WF, TT WF gp g' → Turned P.B top wr.drew WF → Hid (TT WF gp g') ∧ Hid (Chg P.B top W1 WF) := fun WF h1 h2 => ⟨Lib.hid h1, Lib.hid ((HG.out.trans (Chg.of_below ((Below.refl wr.heap.size wr).drew))).trans (Chg.of_turned h2))⟩
        have HF := Lib.hid hfin
        have bq1 : (0 : Int) ≤ (q : Int) := by omega
        have bq2 : (q : Int) ≤ (q : Int) + (K : Int) := by omega
        have bq3 : (q : Int) + (K : Int) ≤ (cb : Int) := by omega
        have bq4 : ((q : Int) + (K : Int)).toNat = q + K := by omega
        have bq5 : IntKind.i64.wrap ((q : Int) + (K : Int)) = (q : Int) + (K : Int) := by rw [IntKind.wrap_i64]; omega
        obtain ⟨D, hD⟩ : ∃ D, (N : Int) - (q : Int) = D := ⟨_, rfl⟩
        have bq6 : IntKind.i64.wrap ((N : Int) - (q : Int)) = D := by rw [IntKind.wrap_i64]; omega
        rw [hD] at hK
        have hK2 := hK
        clear hwi hz2 hsc2 hfin
        have hz0 : (cb = q ∨ AB = none) → ∀ A', IsRow wr.drew wr.drew.heap.size 1 A' K (fun j => .int .u8 (gb (q + j))) := fun hz A' hp => by
          rcases hz with hz | hz
          · omega
          · subst hz
            obtain ⟨_, e, _⟩ := hSw (by omega)
            cases e
        have hz1 : ∀ adb, AB = some adb → IsRow wr.drew wr.drew.heap.size 1 (some (adb.add q)) K (fun j => .int .u8 (gb (q + j))) := fun adb e hp => by
          subst e
          obtain ⟨ad', e, k1, k2⟩ := hSw (by omega)
          cases e
          refine ⟨_, rfl, by rw [block_of_add]; exact k1, fun i hi => ?_⟩
          rw [add_of_add]
          exact k2 _ (by omega)
        have HKN := Lib.hid hKq
        clear hSw hD hKq hKX hK2
        by_cases hcq : cb = q
        · have HC2 := Lib.hid (show ∀ A', _ from fun A' => HC.out A' (hz0 (.inl hcq) A'))
          obtain rfl : K = 0 := by omega
          have z1 : (0 : Int) ≤ (cb : Int) := by omega
          have z2 : IntKind.i64.wrap (cb : Int) = (cb : Int) := by rw [IntKind.wrap_i64]; omega
          subst hcq
          have HC3 := HC2.out
          simp only [Nat.sub_self] at HC3
          clear HC2
          have HC2 := Lib.hid HC3
          clear HC3
          obtain rfl : D = 0 := by split at hK <;> omega
          clear hz0 hz1 hK bq1 bq2 bq3 bq4 bq5 hN hqN
          go_wp2_with fail
          go_region_held3 (fun w' => w'.cell? (ad.add (j * 3)) = some (.int .u64 a))
            (first | exact kF0 | exact kd0 | go_keep)
            (first
              | (go_at_call 53; refine (HC2.out _).mono ?_; rintro e WF ⟨rfl, hTF, hWF⟩; have kF0 : WF.cell? (ad.add (j * 3)) = some (.int .u64 a) := HEC.out _ hWF; obtain ⟨HTF, HWF⟩ := HF.out _ hTF hWF))
          go_wp2_with fail
          go_roundw
          case rel => exact ⟨j + 1, cb + 0, _, by omega, HKN.out, by go_num, by go_num, Lib.hid HN2.out.1, HTF, Lib.hid HN2.out.2, HWF⟩
          case measure => simp [intOf]; omega
        · cases AB with
          | none =>
            have HC2 := Lib.hid (show ∀ A', _ from fun A' => HC.out A' (hz0 (.inr rfl) A'))
            clear hz0 hz1
            go_wp2_with fail
            go_region_held3 (fun w' => w'.cell? (ad.add (j * 3)) = some (.int .u64 a))
              (first | exact kF0 | exact kd0 | go_keep)
              (first
                | (go_at_call 53; refine (HC2.out _).mono ?_; rintro e WF ⟨rfl, hTF, hWF⟩; have kF0 : WF.cell? (ad.add (j * 3)) = some (.int .u64 a) := HEC.out _ hWF; obtain ⟨HTF, HWF⟩ := HF.out _ hTF hWF))
            go_wp2_with fail
            go_roundw
            case rel => exact ⟨j + 1, q + K, _, by omega, HKN.out, by go_num, by go_num, Lib.hid HN2.out.1, HTF, Lib.hid HN2.out.2, HWF⟩
            case measure => simp [intOf]; omega
          | some adb =>
            have HC2 := Lib.hid (show ∀ A', A' = some (adb.add q) → Calls Try.prog 53 #[.pointer (some ⟨P.mm, 0, none⟩), .int .u64 a, .slice A' K (cb - q)] wr.drew fun x W' => x = .returned (.int .i64 0) ∧ TT W' gp g' ∧ Turned P.B top wr.drew W' from fun A' e => HC.out A' (e ▸ hz1 _ rfl))
            clear hz0 hz1
            go_wp2_with fail
            go_region_held3 (fun w' => w'.cell? (ad.add (j * 3)) = some (.int .u64 a))
              (first | exact kF0 | exact kd0 | go_keep)
              (first
                | (go_at_call 53; refine (HC2.out _ rfl).mono ?_; rintro e WF ⟨rfl, hTF, hWF⟩; have kF0 : WF.cell? (ad.add (j * 3)) = some (.int .u64 a) := HEC.out _ hWF; obtain ⟨HTF, HWF⟩ := HF.out _ hTF hWF))
            go_wp2_with fail
            go_roundw
            case rel => exact ⟨j + 1, q + K, _, by omega, HKN.out, by go_num, by go_num, Lib.hid HN2.out.1, HTF, Lib.hid HN2.out.2, HWF⟩
            case measure => simp [intOf]; omega
    · obtain rfl : j = LN := by omega
      have dj : decide ((j : Int) < (j : Int)) = false := decide_eq_false (by omega)
      have hsc := HSC.out
      have hq := HQ.out
      have e0 : l.drop j = [] := List.drop_eq_nil_of_le (by rw [HLN.out]; omega)
      have e3 : lft N q [] = [] := rfl
      have e1 : sm ([] : List S3) = 0 := rfl
      have e2 : scG P gb q [] gj = gj := rfl
      rw [e0, e3, e1] at hq
      rw [e0, e3, e2] at hsc
      subst hsc
      obtain rfl : (q : Int) = Z := by omega
      have H := Lib.hid (And.intro HTw.out ((Chg.of_below hb1.out).trans HG.out))
      clear HTw HG hq HQ HSC e0 e1 e2 e3
      go_wp2_with fail
      go_returns
      exact ⟨rfl, H.out.1, H.out.2⟩

end Go.Proofs.Ytkejcdephnkkgaa.SgScd
