/- The law SegCalls: buffers are checked, gathered, scattered and cut as the document says. For every input; no condition. -/
import Derived.Test.YtkejcdephnkkgaaSegCallsR19
namespace Go.Proofs.Ytkejcdephnkkgaa.SegCalls
open Go.ChangeShapes Go.WideShapes Go.ChangeAt Go.RowKit Rw Le Sg SgCheck SgTotal SgCut SgMath SgArgs SgR1 SgR3 SgR4 SgKit GmFind GmWord GmCheck GmTwo GmTwin GmArgs SgPair SgMem SgScp SgWays SgScrA
set_option linter.unusedVariables false
set_option linter.unusedSimpArgs false

theorem chg_row {B top : Nat} {W W' : World} (h : Chg B top W W') {s n : Nat} {A : Option Addr} {F : Nat → Value} (hr : IsRow W W.heap.size s A n F) (hA : 0 < n → ∀ ad, A = some ad → ad.block < B ∨ top ≤ ad.block) : IsRow W' W'.heap.size s A n F := h.row hr hA
theorem in_low {w : World} {s n : Nat} {A : Option Addr} {F : Nat → Value} {top : Nat} (h : IsRow w w.heap.size s A n F) : 0 < n → ∀ ad, A = some ad → ad.block < w.heap.size ∨ top ≤ ad.block := fun hn ad e => by
  obtain ⟨ad', e', hlt, _⟩ := h hn
  rw [e] at e'
  cases e'
  exact .inl hlt

theorem get_byte {zs : List Int} (h : ∀ z ∈ zs, 0 ≤ z ∧ z ≤ 255) (j : Nat) : 0 ≤ zs.getD j 0 ∧ zs.getD j 0 ≤ 255 := by
  rw [List.getD_eq_getElem?_getD]
  by_cases hj : j < zs.length
  · rw [List.getElem?_eq_getElem hj, Option.getD_some]
    exact h _ (List.getElem_mem hj)
  · rw [List.getElem?_eq_none (by omega), Option.getD_none]
    decide

theorem cut_len {l : List S3} (hr : ∀ x ∈ l, x.Raw) {f n : Int} (hf : 0 ≤ f) (hn : 0 ≤ n) : (cutL l f n).length ≤ 64 := by
  by_cases hc : checkL l = 0
  · have hb := Buf.of hr hc
    rw [hb.cut]
    exact ((hb.drop f hf).take n hn).len
  · unfold cutL
    rw [if_neg hc]
    exact Nat.zero_le _
theorem part_len {l : List S3} (hr : ∀ x ∈ l, x.Raw) (b : Bool) : (partL l b).length ≤ 64 := by
  by_cases hc : checkL l = 0
  · exact (part_buf b (Buf.of hr hc)).len
  · unfold partL cutL
    simp [hc]

set_option maxRecDepth 100000 in
set_option maxHeartbeats 16000000 in
theorem walk1 (A1 Al Ao Ab : Option Addr) (k1 c1 cl co cb N : Nat) (r : Rg) (l o : List S3) (zs : List Int) (fr nn : Int) (wt : Bool) (w : World) (hR : IsRegs w (.slice A1 k1 c1) A1 k1 c1 r) (hL : IsSegs w (.slice Al l.length cl) Al cl l) (hO : IsSegs w (.slice Ao o.length co) Ao co o)
    (hzs : zs.length = N) (hNc : N ≤ cb) (hcb : cb ≤ maxLen) (hB : IsRow w w.heap.size 1 Ab N (u8F fun j => zs.getD j 0)) (hBn : Ab = none → N = 0 ∧ cb = 0) (hZ : ∀ j, 0 ≤ zs.getD j 0 ∧ zs.getD j 0 ≤ 255) (hf : 0 ≤ fr ∧ fr ≤ 18446744073709551615) (hn : 0 ≤ nn ∧ nn ≤ 18446744073709551615) :
    Calls Try.prog 3 #[.slice A1 k1 c1, .slice Al l.length cl, .slice Ao o.length co, .slice Ab N cb, .int .u64 fr, .int .u64 nn, .bool wt] w (Lib.True1 w.heap.size w) := by
  unfold Lib.True1
  have hb0 : Below w.heap.size w w := Below.refl _ _
  have HR := Lib.hid hR
  have HL := Lib.hid hL
  have HO := Lib.hid hO
  have HB := Lib.hid hB
  have HBn := Lib.hid hBn
  have HZ := Lib.hid hZ
  have hll := hL.le
  have hlm := hL.max
  have hol := hO.le
  have hom := hO.max
  unfold maxLen at hlm hom hcb
  obtain ⟨Ln, hLn⟩ : ∃ Ln, l.length = Ln := ⟨_, rfl⟩
  obtain ⟨On, hOn⟩ : ∃ On, o.length = On := ⟨_, rfl⟩
  have HLn := Lib.hid hLn
  have HOn := Lib.hid hOn
  rw [hLn] at hll ⊢
  rw [hOn] at hol ⊢
  clear hR hL hO hB hBn hZ hLn hOn hzs
  by_cases hbig : Ln ≤ 100 ∧ On ≤ 100 ∧ N ≤ 20000
  case neg =>
    go_enter Try.func3, Try.ntmps3
    go_wp2_with fail
    refine (SgLives.lives_any _).mono ?_
    rintro eE W1 ⟨rfl, hg1⟩
    have hb1 : Below w.heap.size w W1 := (show Below w.heap.size w _ by go_grown).trans (hg1.mono (by first | omega | go_size))
    obtain ⟨hc1, hf1⟩ := bcell hg1
    have hs1 := hg1.size
    try simp only [World.size_alloc, World.size_setCell, World.size_drew] at hs1
    clear hg1 hc1 hf1
    go_wp2_with fail
    refine (GmKit.light_any A1 k1 c1 20000 r _ HR.out.raw (SgScrA.rowAt HR.out.lst (by go_grown))).mono ?_
    rintro e w' ⟨b1, rfl, h40, rfl⟩
    by_cases q1 : 100 < Ln
    · have d1 : decide ((100 : Int) < (Ln : Int)) = true := decide_eq_true (by omega)
      clear hbig
      cases b1
      all_goals go_wp2_with fail
      all_goals go_ret
      all_goals exact ⟨rfl, by go_grown⟩
    · have d1 : decide ((100 : Int) < (Ln : Int)) = false := decide_eq_false (by omega)
      by_cases q2 : 100 < On
      · have d2 : decide ((100 : Int) < (On : Int)) = true := decide_eq_true (by omega)
        clear hbig
        cases b1
        all_goals go_wp2_with fail
        all_goals go_ret
        all_goals exact ⟨rfl, by go_grown⟩
      · have d2 : decide ((100 : Int) < (On : Int)) = false := decide_eq_false (by omega)
        have d3 : decide ((20000 : Int) < (N : Int)) = true := decide_eq_true (by omega)
        clear hbig
        cases b1
        all_goals go_wp2_with fail
        all_goals go_ret
        all_goals exact ⟨rfl, by go_grown⟩
  obtain ⟨q1, q2, q3⟩ := hbig
  have d1 : decide ((100 : Int) < (Ln : Int)) = false := decide_eq_false (by omega)
  have d2 : decide ((100 : Int) < (On : Int)) = false := decide_eq_false (by omega)
  have d3 : decide ((20000 : Int) < (N : Int)) = false := decide_eq_false (by omega)
  have HP1 := Lib.hid (show ∀ W, Below w.heap.size w W → Calls Try.prog 19 #[.slice Al Ln cl, .bool wt] W (SegsP (partL l wt) W) from fun W hW => by have := part_any Al cl l wt W (by rw [HLn.out]; omega) HL.out.raw (lon HL.out.lst hW); rwa [HLn.out] at this)
  have HP2 := Lib.hid (show ∀ W, Below w.heap.size w W → Calls Try.prog 20 #[.slice Al Ln cl, .bool wt] W (SegsP (partL l wt) W) from fun W hW => by have := r_part Al cl l wt W (by rw [HLn.out]; omega) HL.out.raw (lon HL.out.lst hW); rwa [HLn.out] at this)
  have HC1 := Lib.hid (show ∀ W, Below w.heap.size w W → Calls Try.prog 21 #[.slice Al Ln cl, .int .u64 fr, .int .u64 nn] W (SegsP (cutL l fr nn) W) from fun W hW => by have := cut_any Al cl l fr nn W (by rw [HLn.out]; omega) HL.out.raw (lon HL.out.lst hW) hf.1 hf.2 hn.1 hn.2; rwa [HLn.out] at this)
  have HC2 := Lib.hid (show ∀ W, Below w.heap.size w W → Calls Try.prog 22 #[.slice Al Ln cl, .int .u64 fr, .int .u64 nn] W (SegsP (cutL l fr nn) W) from fun W hW => by have := r_cut Al cl l fr nn W (by rw [HLn.out]; omega) HL.out.raw (lon HL.out.lst hW) hf.1 hf.2 hn.1 hn.2; rwa [HLn.out] at this)
  obtain ⟨RD, hRD⟩ : ∃ RD, rd l = RD := ⟨_, rfl⟩
  obtain ⟨WR, hWR⟩ : ∃ WR, wr l = WR := ⟨_, rfl⟩
  obtain ⟨CK, hCK⟩ : ∃ CK, checkL l = CK := ⟨_, rfl⟩
  obtain ⟨SM, hSM⟩ : ∃ SM, sameL l o = SM := ⟨_, rfl⟩
  have HT1 := Lib.hid (show ∀ W, Below w.heap.size w W → Calls Try.prog 12 #[.slice Al Ln cl] W fun e w' => e = .returned (.tuple #[.int .u64 RD, .int .u64 WR]) ∧ Below W.heap.size W w' from fun W hW => by have := total_any Al cl l W (by rw [HLn.out]; omega) HL.out.raw (lon HL.out.lst hW); rwa [HLn.out, hRD, hWR] at this)
  have HT2 := Lib.hid (show ∀ W, Below w.heap.size w W → Calls Try.prog 13 #[.slice Al Ln cl] W fun e w' => e = .returned (.tuple #[.int .u64 RD, .int .u64 WR]) ∧ Below W.heap.size W w' from fun W hW => by have := r_total Al cl l W (by rw [HLn.out]; omega) HL.out.raw (lon HL.out.lst hW); rwa [HLn.out, hRD, hWR] at this)
  have HK1 := Lib.hid (show ∀ W, Below w.heap.size w W → Calls Try.prog 14 #[.slice Al Ln cl] W fun e w' => e = .returned (.int .i64 CK) ∧ Below W.heap.size W w' from fun W hW => by have := check_any Al cl l W (by rw [HLn.out]; omega) HL.out.raw (lon HL.out.lst hW); rwa [HLn.out, hCK] at this)
  have HK2 := Lib.hid (show ∀ W, Below w.heap.size w W → Calls Try.prog 15 #[.slice Al Ln cl] W fun e w' => e = .returned (.int .i64 CK) ∧ Below W.heap.size W w' from fun W hW => by have := r_check Al cl l W (by rw [HLn.out]; omega) HL.out.raw (lon HL.out.lst hW); rwa [HLn.out, hCK] at this)
  have HS1 := Lib.hid (show ∀ W, Below w.heap.size w W → Calls Try.prog 23 #[.slice Al Ln cl, .slice Ao On co] W fun e w' => e = .returned (.bool SM) ∧ Below W.heap.size W w' from fun W hW => by have := same_any Al Ao cl co l o W (by rw [HLn.out]; omega) (by rw [HOn.out]; omega) (lon HL.out.lst hW) (lon HO.out.lst hW); rwa [HLn.out, HOn.out, hSM] at this)
  have HS2 := Lib.hid (show ∀ W, Below w.heap.size w W → Calls Try.prog 18 #[.slice Al Ln cl, .slice Ao On co] W fun e w' => e = .returned (.bool SM) ∧ Below W.heap.size W w' from fun W hW => by have := sames_any Al Ao cl co l o W (by rw [HLn.out]; omega) (by rw [HOn.out]; omega) (lon HL.out.lst hW) (lon HO.out.lst hW); rwa [HLn.out, HOn.out, hSM] at this)
  clear hRD hWR hCK hSM
  go_enter Try.func3, Try.ntmps3
  go_wp2_with fail
  refine (SgLives.lives_any _).mono ?_
  rintro eE W1 ⟨rfl, hg1⟩
  have hb1 : Below w.heap.size w W1 := (show Below w.heap.size w _ by go_grown).trans (hg1.mono (by first | omega | go_size))
  obtain ⟨hc1, hf1⟩ := bcell hg1
  have hs1 := hg1.size
  try simp only [World.size_alloc, World.size_setCell, World.size_drew] at hs1
  clear hg1 hc1 hf1
  go_wp2_with fail
  refine (GmKit.light_any A1 k1 c1 20000 r _ HR.out.raw (SgScrA.rowAt HR.out.lst (by go_grown))).mono ?_
  rintro e w' ⟨b1, rfl, h40, rfl⟩
  cases b1 with
  | false =>
    go_wp2_with fail
    go_ret
    exact ⟨rfl, by go_grown⟩
  | true =>
    have hk40 := h40 rfl
    clear h40
    go_wp2_with fail
    refine (GmTwin.regions_any A1 k1 c1 r _ (by omega) (fun e => (HR.out.none_ e).2) (SgScrA.rowAt HR.out.lst (by go_grown))).mono ?_
    rintro e W2 ⟨A', c', rfl, hL, hg2⟩
    have HL2 := Lib.hid hL
    clear hL
    have hb2 : Below w.heap.size w W2 := (show Below w.heap.size w _ by go_grown).trans (hg2.mono (by first | omega | go_size))
    obtain ⟨hc2, hf2⟩ := bcell hg2
    have hs2 := hg2.size
    try simp only [World.size_alloc, World.size_setCell, World.size_drew] at hs2
    clear hg2 hc2 hf2
    go_wp2_with fail
    refine (SgWays.new_p A' k1 c' r _ HR.out.raw HL2.out).mono ?_
    rintro e W3 ⟨vm, ev, rfl, hP, hg3⟩
    have HPN := Lib.hid hP
    clear hP
    have hb3 : Below w.heap.size w W3 := (show Below w.heap.size w _ by go_grown).trans (hg3.mono (by first | omega | go_size))
    obtain ⟨hc3, hf3⟩ := bcell hg3
    have hs3 := hg3.size
    try simp only [World.size_alloc, World.size_setCell, World.size_drew] at hs3
    clear hg3 hc3 hf3
    go_wp2_with fail
    refine (SgWays.new_d A1 k1 c1 r _ HR.out.raw (fun e => (HR.out.none_ e).2) (SgScrA.rowAt HR.out.lst (by go_grown))).mono ?_
    rintro e W4 ⟨vr, ev', rfl, hQ, hg4⟩
    obtain ⟨rfl, hM⟩ := mems (B := w.heap.size) HR.out.raw (by omega) HPN.out (Below.refl _ _) hQ
    have HM := Lib.hid hM
    clear hQ HPN hM
    obtain ⟨iv, hin⟩ := ins HM.out l (by rw [HLn.out]; omega) HL.out.raw
    rw [HLn.out] at hin
    have HIN := Lib.hid hin
    clear hin
    have hb4 : Below w.heap.size w W4 := (show Below w.heap.size w _ by go_grown).trans (hg4.mono (by first | omega | go_size))
    obtain ⟨hc4, hf4⟩ := bcell hg4
    have hs4 := hg4.size
    try simp only [World.size_alloc, World.size_setCell, World.size_drew] at hs4
    clear hg4 hc4 hf4
    go_wp2_with fail
    have hw4 := Lib.hid hb4
    have hs4' := hb4.size
    have hpl := part_len HL.out.raw wt
    have hcl := cut_len HL.out.raw hf.1 hn.1
    obtain ⟨PT, hPT⟩ : ∃ PT, partL l wt = PT := ⟨_, rfl⟩
    obtain ⟨CT, hCT⟩ : ∃ CT, cutL l fr nn = CT := ⟨_, rfl⟩
    rw [hPT] at hpl HP1 HP2
    rw [hCT] at hcl HC1 HC2
    clear hPT hCT
    have hself := sameL_refl
    obtain ⟨PL, hPL⟩ : ∃ PL, PT.length = PL := ⟨_, rfl⟩
    obtain ⟨CL, hCL⟩ : ∃ CL, CT.length = CL := ⟨_, rfl⟩
    have HPL := Lib.hid hPL
    have HCL := Lib.hid hCL
    rw [hPL] at hpl
    rw [hCL] at hcl
    have HUP := Lib.hid (show ∀ W, Below W4.heap.size W4 W → Below w.heap.size w W from fun W hW => hw4.out.trans (hW.mono hs4'))
    have HSP := Lib.hid (show ∀ (A A' : Option Addr) (c c' : Nat) (W : World), Sg.Lst W W.heap.size A PT → Sg.Lst W W.heap.size A' PT → Calls Try.prog 18 #[.slice A PL c, .slice A' PL c'] W fun e w' => e = .returned (.bool true) ∧ Below W.heap.size W w' from fun A A' c c' W h h' => by have := sames_any A A' c c' PT PT W (by omega) (by omega) h h'; rwa [hPL, hself] at this)
    have HSC := Lib.hid (show ∀ (A A' : Option Addr) (c c' : Nat) (W : World), Sg.Lst W W.heap.size A CT → Sg.Lst W W.heap.size A' CT → Calls Try.prog 18 #[.slice A CL c, .slice A' CL c'] W fun e w' => e = .returned (.bool true) ∧ Below W.heap.size W w' from fun A A' c c' W h h' => by have := sames_any A A' c c' CT CT W (by omega) (by omega) h h'; rwa [hCL, hself] at this)
    clear hPL hCL hself
    refine (HT1.out _ (HUP.out _ (by go_grown))).mono ?_
    rintro eE W5 ⟨rfl, hg5⟩
    have hb5 : Below W4.heap.size W4 W5 := (show Below W4.heap.size W4 _ by go_grown).trans (hg5.mono (by first | omega | go_size))
    obtain ⟨hc5, hf5⟩ := bcell hg5
    have hs5 := hg5.size
    try simp only [World.size_alloc, World.size_setCell, World.size_drew] at hs5
    clear hg5 hc5 hf5
    go_wp2_with fail
    refine (HT2.out _ (HUP.out _ (by go_grown))).mono ?_
    rintro eE W6 ⟨rfl, hg6⟩
    have hb6 : Below W4.heap.size W4 W6 := (show Below W4.heap.size W4 _ by go_grown).trans (hg6.mono (by first | omega | go_size))
    obtain ⟨hc6, hf6⟩ := bcell hg6
    have hs6 := hg6.size
    try simp only [World.size_alloc, World.size_setCell, World.size_drew] at hs6
    clear hg6 hc6 hf6
    go_wp2_with fail
    refine (HK1.out _ (HUP.out _ (by go_grown))).mono ?_
    rintro eE W7 ⟨rfl, hg7⟩
    have hb7 : Below W4.heap.size W4 W7 := (show Below W4.heap.size W4 _ by go_grown).trans (hg7.mono (by first | omega | go_size))
    obtain ⟨hc7, hf7⟩ := bcell hg7
    have hs7 := hg7.size
    try simp only [World.size_alloc, World.size_setCell, World.size_drew] at hs7
    clear hg7 hc7 hf7
    go_wp2_with fail
    refine (HK2.out _ (HUP.out _ (by go_grown))).mono ?_
    rintro eE W8 ⟨rfl, hg8⟩
    have hb8 : Below W4.heap.size W4 W8 := (show Below W4.heap.size W4 _ by go_grown).trans (hg8.mono (by first | omega | go_size))
    obtain ⟨hc8, hf8⟩ := bcell hg8
    have hs8 := hg8.size
    try simp only [World.size_alloc, World.size_setCell, World.size_drew] at hs8
    clear hg8 hc8 hf8
    go_wp2_with fail
    refine ((HIN.out _ (by go_grown) Al cl (lon HL.out.lst (HUP.out _ (by go_grown)))).1).mono ?_
    rintro eE W9 ⟨rfl, hg9⟩
    have hb9 : Below W4.heap.size W4 W9 := (show Below W4.heap.size W4 _ by go_grown).trans (hg9.mono (by first | omega | go_size))
    obtain ⟨hc9, hf9⟩ := bcell hg9
    have hs9 := hg9.size
    try simp only [World.size_alloc, World.size_setCell, World.size_drew] at hs9
    clear hg9 hc9 hf9
    go_wp2_with fail
    refine ((HIN.out _ (by go_grown) Al cl (lon HL.out.lst (HUP.out _ (by go_grown)))).2).mono ?_
    rintro eE W10 ⟨rfl, hg10⟩
    have hb10 : Below W4.heap.size W4 W10 := (show Below W4.heap.size W4 _ by go_grown).trans (hg10.mono (by first | omega | go_size))
    obtain ⟨hc10, hf10⟩ := bcell hg10
    have hs10 := hg10.size
    try simp only [World.size_alloc, World.size_setCell, World.size_drew] at hs10
    clear hg10 hc10 hf10
    go_wp2_with fail
    refine (HP1.out _ (HUP.out _ (by go_grown))).mono ?_
    rintro e W11 ⟨A11, c11, rfl, hl11, _, hg11⟩
    rw [HPL.out]
    have HL11 := Lib.hid hl11
    clear hl11
    have hb11 : Below W4.heap.size W4 W11 := (show Below W4.heap.size W4 _ by go_grown).trans (hg11.mono (by first | omega | go_size))
    obtain ⟨hc11, hf11⟩ := bcell hg11
    have hs11 := hg11.size
    try simp only [World.size_alloc, World.size_setCell, World.size_drew] at hs11
    clear hg11 hc11 hf11
    go_wp2_with fail
    refine (HP2.out _ (HUP.out _ (by go_grown))).mono ?_
    rintro e W12 ⟨A12, c12, rfl, hl12, _, hg12⟩
    rw [HPL.out]
    have HL12 := Lib.hid (And.intro (lon HL11.out hg12) hl12)
    clear hl12 HL11
    have hb12 : Below W4.heap.size W4 W12 := (show Below W4.heap.size W4 _ by go_grown).trans (hg12.mono (by first | omega | go_size))
    obtain ⟨hc12, hf12⟩ := bcell hg12
    have hs12 := hg12.size
    try simp only [World.size_alloc, World.size_setCell, World.size_drew] at hs12
    clear hg12 hc12 hf12
    go_wp2_with fail
    refine (HSP.out A11 A12 c11 c12 _ HL12.out.1 HL12.out.2).mono ?_
    rintro eE W13 ⟨rfl, hg13⟩
    have hb13 : Below W4.heap.size W4 W13 := (show Below W4.heap.size W4 _ by go_grown).trans (hg13.mono (by first | omega | go_size))
    obtain ⟨hc13, hf13⟩ := bcell hg13
    have hs13 := hg13.size
    try simp only [World.size_alloc, World.size_setCell, World.size_drew] at hs13
    clear hg13 hc13 hf13
    go_wp2_with fail
    refine (HC1.out _ (HUP.out _ (by go_grown))).mono ?_
    rintro e W14 ⟨A14, c14, rfl, hl14, _, hg14⟩
    rw [HCL.out]
    have HL14 := Lib.hid hl14
    clear hl14
    have hb14 : Below W4.heap.size W4 W14 := (show Below W4.heap.size W4 _ by go_grown).trans (hg14.mono (by first | omega | go_size))
    obtain ⟨hc14, hf14⟩ := bcell hg14
    have hs14 := hg14.size
    try simp only [World.size_alloc, World.size_setCell, World.size_drew] at hs14
    clear hg14 hc14 hf14
    go_wp2_with fail
    refine (HC2.out _ (HUP.out _ (by go_grown))).mono ?_
    rintro e W15 ⟨A15, c15, rfl, hl15, _, hg15⟩
    rw [HCL.out]
    have HL15 := Lib.hid (And.intro (lon HL14.out hg15) hl15)
    clear hl15 HL14
    have hb15 : Below W4.heap.size W4 W15 := (show Below W4.heap.size W4 _ by go_grown).trans (hg15.mono (by first | omega | go_size))
    obtain ⟨hc15, hf15⟩ := bcell hg15
    have hs15 := hg15.size
    try simp only [World.size_alloc, World.size_setCell, World.size_drew] at hs15
    clear hg15 hc15 hf15
    go_wp2_with fail
    refine (HSC.out A14 A15 c14 c15 _ HL15.out.1 HL15.out.2).mono ?_
    rintro eE W16 ⟨rfl, hg16⟩
    have hb16 : Below W4.heap.size W4 W16 := (show Below W4.heap.size W4 _ by go_grown).trans (hg16.mono (by first | omega | go_size))
    obtain ⟨hc16, hf16⟩ := bcell hg16
    have hs16 := hg16.size
    try simp only [World.size_alloc, World.size_setCell, World.size_drew] at hs16
    clear hg16 hc16 hf16
    go_wp2_with fail
    refine (HS1.out _ (HUP.out _ (by go_grown))).mono ?_
    rintro eE W17 ⟨rfl, hg17⟩
    have hb17 : Below W4.heap.size W4 W17 := (show Below W4.heap.size W4 _ by go_grown).trans (hg17.mono (by first | omega | go_size))
    obtain ⟨hc17, hf17⟩ := bcell hg17
    have hs17 := hg17.size
    try simp only [World.size_alloc, World.size_setCell, World.size_drew] at hs17
    clear hg17 hc17 hf17
    go_wp2_with fail
    clear HP1 HP2 HC1 HC2 HT1 HT2 HK1 HK2 HS1 HIN HSP HSC
    rcases HM.out with ⟨rfl, rfl, rfl⟩ | ⟨rfl, P, S, T, HP, hPB, rfl, rfl, hst, hgl, hS, hT⟩
    · skip
      refine (HS2.out _ (HUP.out _ (by go_grown))).mono ?_
      rintro eE W18 ⟨rfl, hg18⟩
      have hb18 : Below W4.heap.size W4 W18 := (show Below W4.heap.size W4 _ by go_grown).trans (hg18.mono (by first | omega | go_size))
      obtain ⟨hc18, hf18⟩ := bcell hg18
      have hs18 := hg18.size
      try simp only [World.size_alloc, World.size_setCell, World.size_drew] at hs18
      clear hg18 hc18 hf18
      go_wp2_with fail
      go_ret
      exact ⟨rfl, HUP.out _ (by go_grown)⟩
    · skip
      refine (HS2.out _ (HUP.out _ (by go_grown))).mono ?_
      rintro eE W18 ⟨rfl, hg18⟩
      have hb18 : Below W4.heap.size W4 W18 := (show Below W4.heap.size W4 _ by go_grown).trans (hg18.mono (by first | omega | go_size))
      obtain ⟨hc18, hf18⟩ := bcell hg18
      have hs18 := hg18.size
      try simp only [World.size_alloc, World.size_setCell, World.size_drew] at hs18
      clear hg18 hc18 hf18
      go_wp2_with fail
      clear HS2
      have hbT := Lib.hid hT
      obtain ⟨sn, se, g', hsc1, hsc2⟩ := scats HP hst l (by rw [HLn.out]; omega) HL.out.raw N q3 (fun j => zs.getD j 0) HZ.out (fun _ => 0)
      rw [HLn.out] at hsc1 hsc2
      have HS1 := Lib.hid hsc1
      have HS2 := Lib.hid hsc2
      have HH := Lib.hid (And.intro hst hgl)
      have HPP := Lib.hid HP
      have HPB := Lib.hid hPB
      clear hsc1 hsc2 hst hgl hT HP hPB HM
      have h19 := segs_any Al cl l W18 (by rw [HLn.out]; omega) (lon HL.out.lst (HUP.out W18 (by go_grown)))
      rw [HLn.out] at h19
      have H19 := Lib.hid h19
      clear h19
      refine H19.out.mono ?_
      rintro e W19 ⟨A19, c19, rfl, hl19, _, hg19⟩
      rw [HLn.out]
      have HL19 := Lib.hid hl19
      clear hl19
      have hb19 : Below W4.heap.size W4 W19 := (show Below W4.heap.size W4 _ by go_grown).trans (hg19.mono (by first | omega | go_size))
      obtain ⟨hc19, hf19⟩ := bcell hg19
      have hs19 := hg19.size
      try simp only [World.size_alloc, World.size_setCell, World.size_drew] at hs19
      clear hg19 hc19 hf19
      go_wp2_with fail
      refine (own_any Ab N cb (fun j => zs.getD j 0) _ (by omega) (SgScrA.rowAt HB.out (HUP.out _ (by go_grown))) HBn.out).mono ?_
      rintro e W20 ⟨A20, c20, rfl, hc20, hr20, hf20, hg20⟩
      have HL20 := Lib.hid (lon HL19.out hg20)
      have HR20 := Lib.hid (And.intro hr20 hf20)
      clear hr20 hf20 HL19
      have hs19' := Lib.hid (show Below W4.heap.size W4 W19 by go_grown).size
      have hb20 : Below W4.heap.size W4 W20 := (show Below W4.heap.size W4 _ by go_grown).trans (hg20.mono (by first | omega | go_size))
      obtain ⟨hc20, hf20⟩ := bcell hg20
      have hs20 := hg20.size
      try simp only [World.size_alloc, World.size_setCell, World.size_drew] at hs20
      clear hg20 hc20 hf20
      go_wp2_with fail
      refine (HS1.out _ (fun _ => 0) A19 A20 c19 c20 (HPP.out.below hbT.out (by go_grown)) (by omega) HL20.out HR20.out.1 hc20 (fun _ ad e => .inr (Nat.le_trans hs19'.out (HR20.out.2 ad e)))).mono ?_
      rintro e W21 ⟨rfl, hT21, hch21⟩
      have HT21 := Lib.hid hT21
      have HB21 := Lib.hid ((HUP.out _ (show Below W4.heap.size W4 W20 by go_grown)).trans (HPB.out ▸ hch21.below (by rw [HPB.out]; exact (HUP.out _ (show Below W4.heap.size W4 W20 by go_grown)).size)))
      have hs21 := hch21.size
      have hz21 := Lib.hid (show W4.heap.size ≤ W21.heap.size by omega)
      clear hT21 hch21 HS1 HL20 HR20
      go_wp2_with fail
      refine (HS2.out _ g' Al Ab cl cb HT21.out hz21.out (lon HL.out.lst HB21.out) (fun hp => HPB.out ▸ in_low HL.out.lst (by rw [HLn.out]; omega)) (SgScrA.rowAt HB.out HB21.out) hNc (fun hp => HPB.out ▸ in_low HB.out (by omega))).mono ?_
      rintro e W22 ⟨rfl, hT22, hch22⟩
      have HT22 := Lib.hid hT22
      have HB22 := Lib.hid (HB21.out.trans (HPB.out ▸ hch22.below (by rw [HPB.out]; exact HB21.out.size)))
      clear hT22 hch22 HS2
      go_wp2_with fail
      obtain ⟨ns, ge, hns, hga1, hga2⟩ := gaths HPP.out HH.out.1 HH.out.2 o (by rw [HOn.out]; omega) HO.out.raw g' (fun j => HPP.out.lo HT22.out j)
      rw [HOn.out] at hga1 hga2
      have HG1 := Lib.hid hga1
      have HG2 := Lib.hid hga2
      have HNS := Lib.hid hns
      clear hga1 hga2 hns
      refine (HG1.out _ g' Ao co HT22.out (lon HO.out.lst HB22.out)).mono ?_
      rintro e W23 ⟨A23, c23, rfl, hr23, hg23⟩
      have HT23 := Lib.hid (HPP.out.below HT22.out hg23)
      have HB23 := Lib.hid (HB22.out.trans (hg23.mono HB22.out.size))
      have HR23 := Lib.hid hr23
      clear hr23 hg23 HG1
      go_wp2_with fail
      refine (HG2.out _ g' Ao co HT23.out (lon HO.out.lst HB23.out)).mono ?_
      rintro e W24 ⟨A24, c24, rfl, hr24, hg24⟩
      have HT24 := Lib.hid (HPP.out.below HT23.out hg24)
      have HB24 := Lib.hid (HB23.out.trans (hg24.mono HB23.out.size))
      have HR24 := Lib.hid (And.intro (SgScrA.rowAt HR23.out hg24) hr24)
      clear hr24 hg24 HG2 HR23
      go_wp2_with fail
      obtain ⟨NL, hNL⟩ : ∃ NL, ns.length = NL := ⟨_, rfl⟩
      have hG8 : Bytes8 (fun j => ns.getD j 0) NL := fun j hj => get_byte HNS.out j
      rw [hNL] at HR24 ⊢
      obtain ⟨GG, hGG⟩ : ∃ GG : Nat → Int, (fun j => ns.getD j 0) = GG := ⟨_, rfl⟩
      have HR25 := Lib.hid (show IsRow W24 W24.heap.size 1 A23 NL (u8F fun j => ns.getD j 0) ∧ IsRow W24 W24.heap.size 1 A24 NL (u8F fun j => ns.getD j 0) from HR24.out)
      rw [hGG] at hG8 HR25
      clear HR24 hGG
      refine Asrt.to_ops (id := 19) (ops := SegCallsR19.OPS) (by kernel_rfl) ?_
      refine Asrt.wp_region_assert (by kernel_rfl) (by kernel_rfl) (Lib.Held w W24 []) [(158, .is (.int .i64 sn)), (159, .is (.int .i64 sn)), (160, .is (.bool true)), (161, .is (.bool true)), (162, .is (.int .i64 se)), (163, .is (.int .i64 se)), (164, .is (.bool true)), (165, .is (.bool true)), (166, .is (.bool true)), (167, .is (.slice A23 NL c23)), (168, .is (.string (strOf GG NL))), (169, .is (.slice A24 NL c24)), (170, .is (.string (strOf GG NL))), (171, .is (.bool true)), (172, .is (.bool true)), (173, .is (.bool true)), (174, .is (.int .i64 ge)), (175, .is (.int .i64 ge)), (176, .is (.bool true)), (177, .is (.bool true)), (178, .is (.bool true)), (179, .is (.pointer (some ⟨P.m, 0, none⟩))), (180, .cut 1 S (u8F g')), (181, .is (.string (strOf g' S))), (182, .is (.pointer (some ⟨P.mm, 0, none⟩))), (183, .cut 1 S (u8F g')), (184, .is (.string (strOf g' S))), (185, .is (.bool true)), (186, .is (.bool true)), (14, .is (.bool true))] ⟨HB24.out.drew, (Below.refl _ _).drew, trivial⟩ (by kernel_rfl) (by kernel_rfl) (SegCallsR19.obs w W24 P S W4.heap.size T g' sn se ge A23 A24 NL c23 c24 GG HPP.out HT24.out hG8 HR25.out.1 HR25.out.2 _ (fun _ _ => rfl) (fun _ _ => rfl) (fun _ _ => rfl) (fun _ _ => rfl) (fun _ _ => rfl) (fun _ _ => rfl) (fun _ _ => rfl) (fun _ _ => rfl) (fun _ _ => rfl) (fun _ _ => rfl) (fun _ _ => rfl) (fun _ _ => rfl) (fun _ _ => rfl) (fun _ _ => rfl) (fun _ _ => rfl) (fun _ _ => rfl) (fun _ _ => rfl) (fun _ _ => rfl) (fun _ _ => rfl) (fun _ _ => rfl) (fun _ _ => rfl) (fun _ _ => rfl) (fun _ _ => rfl) (fun _ _ => rfl) (fun _ _ => rfl) (fun _ _ => rfl) (fun _ _ => rfl) (fun _ _ => rfl) (fun _ _ => rfl) (fun _ _ => rfl) (fun _ _ => rfl) (fun _ _ => rfl) (fun _ _ => rfl) (fun _ _ => rfl) (fun _ _ => rfl) (fun _ _ => rfl) (fun _ _ => rfl) (fun _ _ => rfl) (fun _ _ => rfl) (fun _ _ => rfl)) ?_
      intro a19 w19 hC19 hB19 hs19 hd19 hT19 hU19
      have e4 : a19.tmps.getD 14 undef = .bool true := hT19 14 _ rfl
      rename_i K hK
      refine hK _ _ (wp_ret ?_)
      refine bodyPost_ret (results_tmp rfl _ _ _) hd19 ?_
      rw [e4]
      exact ⟨rfl, hC19.1⟩

theorem walk (v1 : Value) (A1 : Option Addr) (k1 c1 : Nat) (r : Rg) (v2 : Value) (Al : Option Addr) (cl : Nat) (l : List S3) (v3 : Value) (Ao : Option Addr) (co : Nat) (o : List S3) (v4 : Value) (zs : List Int) (fr nn : Int) (wt : Bool) (w : World)
    (hR : IsRegs w v1 A1 k1 c1 r) (hL : IsSegs w v2 Al cl l) (hO : IsSegs w v3 Ao co o) (hB : Args.IsInts w .u8 v4 zs) (hf : (Lit.int .u64 fr).wf = true) (hn : (Lit.int .u64 nn).wf = true) :
    Calls Try.prog 3 #[v1, v2, v3, v4, .int .u64 fr, .int .u64 nn, .bool wt] w (Lib.True1 w.heap.size w) := by
  obtain rfl := hR.val
  obtain rfl := hL.val
  obtain rfl := hO.val
  obtain ⟨Ab, cb, rfl, h1, h2, h3, h4, h5⟩ := open_u8s hB
  exact walk1 A1 Al Ao Ab k1 c1 cl co cb zs.length r l o zs fr nn wt w hR hL hO rfl h1 h2 h3 h4 (fun j => get_byte h5 j) (bounds_u64 hf) (bounds_u64 hn)

set_option maxRecDepth 100000 in
theorem lifted (os : Os) (started : os.Started) (H : Type) (enc : TypeId × Value → H) :
    ReturnsInHanded {} Try.checked os 3 .any (Rows.segCallsSpec.pre6 enc Try.prog Try.f3 Rows.segCallsRow.domain false) (Rows.segCallsSpec.post enc Try.prog Try.f3 false true false false) := by
  refine Lib.lifted (C := Try.checked) (tb := 4) H enc Lib.own started (by kernel_rfl) Try.func3
    (ChangeSpec.witness6 (enc := enc) (C := Try.checked) false ⟨#[], #[.slice none 0 0, .slice none 0 0, .slice none 0 0, .slice none 0 0, .int .u64 0, .int .u64 0, .bool false], []⟩ 8 (by kernel_rfl) (by kernel_rfl) (by kernel_rfl) (by kernel_rfl))
    Lib.laidOut (Lib.readable_of (by kernel_rfl)) rfl Try.underlying4 rfl ?_ ?_
  · intro ds h
    match ds, h with
    | [_, _, _, _, _, _, _], _ => exact ⟨rfl, rfl, rfl⟩
  · intro W base args ds p hval hA hfz hlt
    rw [Try.params3] at hval
    have hA' : DataW.TrodAll enc Try.prog W 0 (fun _ => true) true Try.f3.params.toList args.toList ds p := hA
    rw [Try.params3] at hA'
    obtain ⟨v0, vs0, d0, ds0, p0, q0, hargs, rfl, rfl, h0, r0⟩ := trodAll_cons hA'
    obtain ⟨v1, vs1, d1, ds1, p1, q1, rfl, rfl, rfl, h1, r1⟩ := trodAll_cons r0
    obtain ⟨v2, vs2, d2, ds2, p2, q2, rfl, rfl, rfl, h2, r2⟩ := trodAll_cons r1
    obtain ⟨v3, vs3, d3, ds3, p3, q3, rfl, rfl, rfl, h3, r3⟩ := trodAll_cons r2
    obtain ⟨v4, vs4, d4, ds4, p4, q4, rfl, rfl, rfl, h4, r4⟩ := trodAll_cons r3
    obtain ⟨v5, vs5, d5, ds5, p5, q5, rfl, rfl, rfl, h5, r5⟩ := trodAll_cons r4
    obtain ⟨v6, vs6, d6, ds6, p6, q6, rfl, rfl, rfl, h6, r6⟩ := trodAll_cons r5
    obtain ⟨rfl, rfl, rfl⟩ := trodAll_nil r6
    obtain rfl : args = #[v0, v1, v2, v3, v4, v5, v6] := by cases args; simp_all
    obtain ⟨a0_0, a0_1, a0_2, a0_3, w0⟩ := GmArgs.open_regions (hval 0 22 v0 rfl rfl) h0
    obtain ⟨a1_0, a1_1, a1_2, w1⟩ := SgArgs.open_segs (hval 1 23 v1 rfl rfl) h1
    obtain ⟨a2_0, a2_1, a2_2, w2⟩ := SgArgs.open_segs (hval 2 23 v2 rfl rfl) h2
    obtain ⟨zs3, w3⟩ := Args.open_ints Try.underlying24 Try.underlying5 (by kernel_rfl) (hval 3 24 v3 rfl rfl) h3 (fun x hx => hlt x (by simp [hx]))
    obtain ⟨a4, rfl, rfl, rfl, w4⟩ := open_int Try.underlying25 (hval 4 25 v4 rfl rfl) h4
    obtain ⟨a5, rfl, rfl, rfl, w5⟩ := open_int Try.underlying25 (hval 5 25 v5 rfl rfl) h5
    obtain ⟨a6, rfl, rfl, rfl⟩ := open_bool Try.underlying4 (hval 6 4 v6 rfl rfl) h6
    exact walk v0 a0_0 a0_1 a0_2 a0_3 v1 a1_0 a1_1 a1_2 v2 a2_0 a2_1 a2_2 v3 zs3 a4 a5 a6 W w0 w1 w2 w3 w4 w5

theorem over : Rows.segCallsRow.holds Try.pinned (OpenSpec.ofChange Rows.segCallsSpec) :=
  OpenClaim.holds_of_wide 3 Try.f3 rfl rfl rfl rfl rfl rfl rfl ⟨rfl, rfl, rfl, rfl, rfl⟩ rfl rfl rfl rfl rfl (by kernel_rfl) Try.func3 (by kernel_rfl)
    (of_decide_eq_true (by kernel_rfl)) (by unfold Func.isWrapper; first | (rw [if_pos (by decide +kernel)]; kernel_rfl) | (rw [if_neg (by decide +kernel)]; exact ⟨rfl, rfl⟩))
    (fun os started H enc _ => lifted os started H enc)

/-- The statement. -/
theorem proved : Rows.SegCallsSaid :=
  over

end Go.Proofs.Ytkejcdephnkkgaa.SegCalls
