/- Gather of the document over a pair of memories. -/
import Derived.Test.YtkejcdephnkkgaaSgGap
import Derived.Deep.RegionHeld3
namespace Go.Proofs.Ytkejcdephnkkgaa.SgGad
open Go.RowKit Rw Sg SgCheck SgTake SgTotal SgCut SgMath SgR2 SgConcat GmFind GmWord GmRead GmWrite GmLoad GmTwo SgPair SgMem SgScp SgGap
set_option linter.unusedVariables false
set_option linter.unusedSimpArgs false

set_option maxRecDepth 100000 in
set_option maxHeartbeats 4000000 in
theorem gather_d_bad {P : Nums} {SZ top : Nat} {TT : World → (Nat → Int) → (Nat → Int) → Prop} (hPair : Pair P SZ top TT) (gp gd : Nat → Int) (A : Option Addr) (c : Nat) (l : List S3) (w : World) (hM : TT w gp gd) (hn : l.length ≤ 1000000) (hraw : ∀ x ∈ l, x.Raw) (h : Lst w w.heap.size A l) (hi : inL P.r P.k l ≠ 0) :
    Calls Try.prog 29 #[.pointer (some ⟨P.mm, 0, none⟩), .slice A l.length c] w fun e w' => e = .returned (.tuple #[.slice none 0 0, .int .i64 (inL P.r P.k l)]) ∧ Below w.heap.size w w' := by
  have hb0 : Below w.heap.size w w := Below.refl _ _
  have h1 : (inL P.r P.k l == 0) = false := by simp [hi]
  have HM := Lib.hid hM
  have HL := Lib.hid h
  clear hM h hi
  go_enter Try.func29, Try.ntmps29
  go_wp2_with fail
  refine (in_d hPair gp gd A c l _ HM.out hn hraw HL.out).mono ?_
  rintro eE W1 ⟨rfl, hg1⟩
  have hb1 : Below w.heap.size w W1 := (show Below w.heap.size w _ by go_grown).trans (hg1.mono (by first | omega | go_size))
  obtain ⟨hc1, hf1⟩ := bcell hg1
  have hs1 := hg1.size
  try simp only [World.size_alloc, World.size_setCell, World.size_drew] at hs1
  clear hg1 hc1 hf1
  go_wp2_with fail
  go_returns
  exact ⟨rfl, by go_grown⟩

theorem only_len {b : Bool} {l : List S3} (h : ∀ x ∈ l, x.Val) : ∀ x ∈ onlyL b l, x.Val := fun x hx => h x (List.mem_filter.1 hx).1

set_option maxRecDepth 100000 in
set_option maxHeartbeats 16000000 in
theorem gather_d {P : Nums} {SZ top : Nat} {TT : World → (Nat → Int) → (Nat → Int) → Prop} (hPair : Pair P SZ top TT) (gp gd : Nat → Int) (A : Option Addr) (c : Nat) (l : List S3) (w : World) (hM : TT w gp gd)
    (hraw : ∀ x ∈ l, x.Raw) (h : Lst w w.heap.size A l) (hi : inL P.r P.k l = 0) (hs : sm (onlyL false l) ≤ 1000000000) :
    Calls Try.prog 29 #[.pointer (some ⟨P.mm, 0, none⟩), .slice A l.length c] w (JoinP (gaL P.r P.k gd (onlyL false l)) w) := by
  have hb0 : Below w.heap.size w w := Below.refl _ _
  have hk := inL_ok hi
  have hbuf := Buf.of hraw hk.1
  have hgl := gaL_len P.r P.k gd (onlyL false l) (only_len hbuf.val)
  obtain ⟨R, hR⟩ : ∃ R, gaL P.r P.k gd (onlyL false l) = R := ⟨_, rfl⟩
  rw [hR] at hgl ⊢
  obtain ⟨i0, hi0, hz0, hz1, hz2⟩ := GmNew.u8info
  have HI0 := Lib.hid hi0
  have HI1 := Lib.hid hz0
  have HI2 := Lib.hid hz1
  have HI3 := Lib.hid hz2
  have h1 : (inL P.r P.k l == 0) = true := by simp [hi]
  have hlen : l.length ≤ 64 := hbuf.len
  have hz : l.length ≤ 1000000 := by omega
  have HM := Lib.hid hM
  have HL := Lib.hid h
  have HB := Lib.hid hbuf
  have HI := Lib.hid hk.2
  have HR := Lib.hid hR
  have HRL := Lib.hid (show R.length ≤ 1000000000 from by omega)
  clear hM h hR hbuf hk hraw hgl hs hi0 hz0 hz1 hz2
  unfold JoinP
  go_enter Try.func29, Try.ntmps29
  go_wp2_with fail
  (with_reducible refine (in_d hPair gp gd A c l _ HM.out hz HB.out.raw HL.out).mono ?_)
  rintro e W1 ⟨rfl, hg1⟩
  have hb1 : Below w.heap.size w W1 := hg1
  clear hg1
  rw [hi]
  clear h1 hi
  obtain ⟨LN, hLN⟩ : ∃ LN, l.length = LN := ⟨_, rfl⟩
  have HLN := Lib.hid hLN
  rw [hLN] at hlen
  simp only [hLN]
  clear hLN hz
  go_wp2_with fail
  go_loopw [7, 8] (fun p i wr => ∃ (j : Nat) (T : List Int) (A1 : Option Addr) (c1 TN : Nat), j ≤ LN ∧ TN = T.length ∧ p = .slice A1 TN c1 ∧ i = .int .i64 j ∧ Hid (T ++ gaL P.r P.k gd (onlyL false (l.drop j)) = R) ∧ Hid (wr.ownsRow w.heap.size 5 1 (.slice A1 TN c1) TN (u8s T)) ∧ Below w.heap.size w wr) (fun p i wr => LN - (intOf i).toNat)
  case atStart => exact ⟨0, [], none, 0, 0, by omega, rfl, rfl, rfl, Lib.hid (by simpa using HR.out), Lib.hid ⟨rfl, .inl ⟨rfl, rfl⟩⟩, hb1⟩
  case round =>
    obtain ⟨j, T, A1, c1, TN, hjn, hTN, rfl, rfl, HT, HO, hb⟩ := hrel
    have hsw := hb.size
    by_cases hlt : j < LN
    · have dj : decide ((j : Int) < (LN : Int)) = true := decide_eq_true (by omega)
      obtain ⟨ad, rfl, had, d0, d1, d2⟩ := el (k := j) (lon HL.out hb) (by rw [HLN.out]; exact hlt)
      have hxm := at_mem l (show j < l.length by rw [HLN.out]; exact hlt)
      have hxv := HB.out.val _ hxm
      have hxi : (place P.r P.k (at_ l j).a (at_ l j).n).isSome = true := List.all_eq_true.1 HI.out _ hxm
      have ht := HT.out
      rw [drop_at l (by rw [HLN.out]; exact hlt)] at ht
      obtain ⟨x, hx⟩ : ∃ x, at_ l j = x := ⟨_, rfl⟩
      rw [hx] at d0 d1 d2 hxv hxi ht
      obtain ⟨r0, r1, r2, r3⟩ := hxv
      obtain ⟨a, n, b⟩ := x
      simp only at d0 d1 d2 r0 r1 r2 r3 hxi
      cases b with
      | true =>
        rw [only_cons, if_neg (show ¬ (true = false) from by decide)] at ht
        have H := Lib.hid ht
        clear ht hxi hx HT
        go_wp2_with fail
        go_roundw
        case rel => exact ⟨j + 1, T, A1, c1, TN, by omega, hTN, rfl, by go_num, H, HO, hb⟩
        case measure => simp [intOf]; omega
      | false =>
        rw [only_cons, if_pos rfl, gaL_cons, ← List.append_assoc] at ht
        obtain ⟨X, rfl⟩ : ∃ X : Nat, n = (X : Int) := ⟨n.toNat, by omega⟩
        obtain ⟨o, ho⟩ := Option.isSome_iff_exists.1 hxi
        have ua : u64in a := ⟨r0, by omega⟩
        have gX : IntKind.i64.wrap (X : Int) = (X : Int) := by rw [IntKind.wrap_i64]; omega
        have hSL : (segBytes P.r P.k gd ⟨a, X, false⟩).length = X := by rw [segBytes_len]; exact Int.toNat_natCast X
        have hSG : ∀ i, i < X → (segBytes P.r P.k gd ⟨a, X, false⟩).getD i 0 = gd (o + i) := fun i hi => by
          unfold segBytes
          simp [List.getD_eq_getElem?_getD, hi, ho]
        obtain ⟨ns, hns⟩ : ∃ ns, segBytes P.r P.k gd ⟨a, X, false⟩ = ns := ⟨_, rfl⟩
        rw [hns] at hSL hSG ht
        have htl : TN + X ≤ R.length := by
          have := congrArg List.length ht
          simp only [List.length_append] at this
          omega
        have hRL := HRL.out
        have hsum : TN + X ≤ 1000000000 := by omega
        have HF := Lib.hid (And.intro ht (And.intro hSL hSG))
        have kd0 : wr.drew.cell? (ad.add (j * 3)) = some (.int .u64 a) := d0
        have kd1 : wr.drew.cell? ⟨(ad.add (j * 3)).block, (ad.add (j * 3)).off + 1, none⟩ = some (.int .u32 X) := d1
        have hbd : Below w.heap.size w wr.drew := hb.trans (((Below.refl wr.heap.size wr).drew).mono hsw)
        have HC := Lib.hid (hPair.dread a X X (fun i => gd (o + i)) 0 wr.drew gp gd (hPair.below HM.out hbd) ua (by omega) (.inr (.inr (.inr ⟨by omega, o, ho, rfl, rfl, rfl⟩))))
        have HEC := Lib.hid (show ∀ W, Below wr.drew.heap.size wr.drew W → W.cell? (ad.add (j * 3)) = some (.int .u64 a) ∧ W.cell? ⟨(ad.add (j * 3)).block, (ad.add (j * 3)).off + 1, none⟩ = some (.int .u32 X) from fun W hW =>
          ⟨(hW.cell (p := ad.add (j * 3)) (by rw [block_of_add]; exact had)).trans kd0, (hW.cell (p := ⟨(ad.add (j * 3)).block, (ad.add (j * 3)).off + 1, none⟩) (by show (ad.add (j * 3)).block < _; rw [block_of_add]; exact had)).trans kd1⟩)
        have HO2 := Lib.hid (show ∀ W, Below wr.drew.heap.size wr.drew W → W.ownsRow w.heap.size 5 1 (.slice A1 TN c1) TN (u8s T) from fun W hW => own_below HO.out (((Below.refl wr.heap.size wr).drew).trans hW))
        have hsd : w.heap.size ≤ wr.drew.heap.size := hsw
        have HT2 := Lib.hid hTN
        clear ht hSL hSG hxi hx HT ho hns hTN htl hRL
        go_wp2_with fail
        go_region_held3 (fun w' => w'.cell? (ad.add (j * 3)) = some (.int .u64 a) ∧ w'.cell? ⟨(ad.add (j * 3)).block, (ad.add (j * 3)).off + 1, none⟩ = some (.int .u32 X))
          (first | exact ⟨kF0, kF1⟩ | exact ⟨kd0, kd1⟩ | go_keep)
          (first
            | (go_at_call 55; refine HC.out.mono ?_; rintro e WF ⟨AF, cF, rfl, hrF, hgF⟩; obtain ⟨kF0, kF1⟩ := HEC.out _ hgF))
        have hOF := Lib.hid (HO2.out _ hgF)
        have hbF : Below w.heap.size w WF := hbd.trans (hgF.mono hsd)
        have hsF := hbF.size
        obtain ⟨aF, rfl, haF, hcF⟩ := hrF (by omega)
        have HNW := Lib.hid (show ∀ i u, (u8s ns)[i]? = some u → WF.cell? (aF.add i) = some u from by
          intro i u hu
          simp only [u8s, List.getElem?_map, Option.map_eq_some_iff] at hu
          obtain ⟨z, hz, rfl⟩ := hu
          obtain ⟨hj, rfl⟩ := List.getElem?_eq_some_iff.1 hz
          have hj2 : i < X := by have := HF.out.2.1; omega
          have e1 := HF.out.2.2 i hj2
          rw [hcF i (by omega)]
          show some (Value.int .u8 (gd (o + i))) = _
          rw [← e1]
          simp [List.getD_eq_getElem?_getD, hj])
        clear hrF hgF hcF kF0 kF1
        go_wp2_with (at_builtin; refine wpList_append_own _ rfl _ _ 24 rfl w.heap.size 5 i0 (.int .u8 0) 1 1 Try.underlying24 HI0.out HI1.out HI2.out HI3.out rfl (by decide) (.slice A1 TN c1) TN (u8s T) rfl hOF.out aF X cF (u8s ns) rfl (by rw [u8s_length, HF.out.2.1, Nat.mul_one]) HNW.out (u8s_one ns) (by unfold maxLen; omega) (by omega) hsF ?_)
        intro v' W3 hown3 hg3 _
        obtain ⟨A3, C3, rfl⟩ := GmNew.own_slice hown3
        have hb3 : Below w.heap.size w W3 := hbF.grown hg3 hsF (fun k e => GmNew.own_block hOF.out k e)
        rw [← u8s_append] at hown3
        have HH := Lib.hid (And.intro hown3 hb3)
        clear hown3 hg3 hb3
        go_wp2_with fail
        go_roundw
        case rel => exact ⟨j + 1, T ++ ns, A3, C3, TN + X, by omega, by rw [List.length_append, HF.out.2.1, HT2.out], rfl, by go_num, Lib.hid HF.out.1, Lib.hid HH.out.1, HH.out.2⟩
        case measure => simp [intOf]; omega
    · obtain rfl : j = LN := by omega
      have dj : decide ((j : Int) < (j : Int)) = false := decide_eq_false (by omega)
      have ht := HT.out
      have e0 : l.drop j = [] := List.drop_eq_nil_of_le (by rw [HLN.out]; omega)
      have e3 : gaL P.r P.k gd (onlyL false []) = [] := rfl
      rw [e0, e3, List.append_nil] at ht
      subst ht
      subst hTN
      clear HT e0 e3
      go_wp2_with fail
      go_returns
      exact ⟨A1, c1, rfl, HO.out, hb⟩

end Go.Proofs.Ytkejcdephnkkgaa.SgGad
