/- Segments in a pair of memories: In, of both. -/
import Derived.Test.YtkejcdephnkkgaaSgPair
import Derived.Test.YtkejcdephnkkgaaSgMath
import Derived.Test.YtkejcdephnkkgaaSgR1
namespace Go.Proofs.Ytkejcdephnkkgaa.SgMem
open Go.RowKit Rw Sg SgCheck SgTotal SgCut SgMath SgR1 GmFind GmWord GmTwo SgPair
set_option linter.unusedVariables false
set_option linter.unusedSimpArgs false

theorem lon {w w' : World} {A : Option Addr} {l : List S3} (h : Lst w w.heap.size A l) (hb : Below w.heap.size w w') : Lst w' w'.heap.size A l := (IsRow.below h hb).more hb.size

/-- Whether each segment is in memory. -/
def allIn (r : Rg) (k : Nat) (l : List S3) : Bool := l.all fun x => (place r k x.a x.n).isSome
def inL (r : Rg) (k : Nat) (l : List S3) : Int := if checkL l = 0 then (if allIn r k l = true then 0 else 5) else checkL l
theorem allIn_cons (r : Rg) (k : Nat) (x : S3) (l : List S3) : allIn r k (x :: l) = ((place r k x.a x.n).isSome && allIn r k l) := rfl

set_option maxRecDepth 100000 in
set_option maxHeartbeats 4000000 in
theorem in_p {P : Nums} {S top : Nat} {T : World → (Nat → Int) → (Nat → Int) → Prop} (hP : Pair P S top T) (gp gd : Nat → Int) (A : Option Addr) (c : Nat) (l : List S3) (w : World) (hM : T w gp gd) (hn : l.length ≤ 1000000) (hraw : ∀ x ∈ l, x.Raw) (h : Lst w w.heap.size A l) :
    Calls Try.prog 16 #[.pointer (some ⟨P.m, 0, none⟩), .slice A l.length c] w fun e w' => e = .returned (.int .i64 (inL P.r P.k l)) ∧ Below w.heap.size w w' := by
  have hb0 : Below w.heap.size w w := Below.refl _ _
  have hread := Lib.hid (show ∀ W, Below w.heap.size w W → Calls Try.prog 46 #[.pointer (some ⟨P.m, 0, none⟩), .int .u64 0, .int .i64 0] W (RdP 0 gp 0 W) from fun W hW => hP.pread 0 0 0 gp 0 W gp gd (hP.below hM hW) ⟨by decide, by decide⟩ (by decide) (.inr (.inl ⟨rfl, rfl, rfl⟩)))
  by_cases hk : checkL l = 0
  case neg =>
    have e1 : inL P.r P.k l = checkL l := by unfold inL; rw [if_neg hk]
    rw [e1]
    have h1 : (checkL l == 0) = false := by simp [hk]
    have HL := Lib.hid h
    have HW := Lib.hid hraw
    clear h hraw hk hM
    go_enter Try.func16, Try.ntmps16
    go_wp2_with fail
    refine (hread.out _ (by go_grown)).mono ?_
    rintro eE W1 ⟨Ar, cr, rfl, _, hg1⟩
    have hb1 : Below w.heap.size w W1 := (show Below w.heap.size w _ by go_grown).trans (hg1.mono (by first | omega | go_size))
    obtain ⟨hc1, hf1⟩ := bcell hg1
    have hs1 := hg1.size
    try simp only [World.size_alloc, World.size_setCell, World.size_drew] at hs1
    clear hg1 hc1 hf1
    go_wp2_with fail
    refine (check_any A c l _ (by omega) HW.out (lon HL.out hb1)).mono ?_
    rintro eE W2 ⟨rfl, hg2⟩
    have hb2 : Below w.heap.size w W2 := (show Below w.heap.size w _ by go_grown).trans (hg2.mono (by first | omega | go_size))
    obtain ⟨hc2, hf2⟩ := bcell hg2
    have hs2 := hg2.size
    try simp only [World.size_alloc, World.size_setCell, World.size_drew] at hs2
    clear hg2 hc2 hf2
    go_wp2_with fail
    go_ret
    exact ⟨rfl, by go_grown⟩
  obtain ⟨R, hR⟩ : ∃ R, allIn P.r P.k l = R := ⟨_, rfl⟩
  have e1 : inL P.r P.k l = if R = true then 0 else 5 := by unfold inL; rw [if_pos hk, hR]
  rw [e1]
  have h1 : (checkL l == 0) = true := by simp [hk]
  have HL := Lib.hid h
  have HW := Lib.hid hraw
  have HR := Lib.hid hR
  have HM := Lib.hid hM
  obtain ⟨CK, hCK⟩ : ∃ CK, checkL l = CK := ⟨_, rfl⟩
  clear h hraw hM e1 hR
  go_enter Try.func16, Try.ntmps16
  go_wp2_with fail
  refine (hread.out _ (by go_grown)).mono ?_
  rintro eE W1 ⟨Ar, cr, rfl, _, hg1⟩
  have hb1 : Below w.heap.size w W1 := (show Below w.heap.size w _ by go_grown).trans (hg1.mono (by first | omega | go_size))
  obtain ⟨hc1, hf1⟩ := bcell hg1
  have hs1 := hg1.size
  try simp only [World.size_alloc, World.size_setCell, World.size_drew] at hs1
  clear hg1 hc1 hf1
  go_wp2_with fail
  (with_reducible refine (check_any A c l _ (by omega) HW.out (lon HL.out hb1)).mono ?_)
  rintro e W2 ⟨rfl, hg2⟩
  have hb2 : Below w.heap.size w W2 := (show Below w.heap.size w _ by go_grown).trans (hg2.mono (by first | omega | go_size))
  obtain ⟨hc2, hf2⟩ := bcell hg2
  have hs2 := hg2.size
  try simp only [World.size_alloc, World.size_setCell, World.size_drew] at hs2
  clear hg2 hc2 hf2
  go_wp2_with fail
  obtain ⟨N, hN⟩ : ∃ N, l.length = N := ⟨_, rfl⟩
  have HN := Lib.hid hN
  rw [hN] at hn
  simp only [hN]
  clear hN h1 hk hCK hread
  go_loopw [25] (fun i wr => ∃ (j : Nat), j ≤ N ∧ i = .int .i64 j ∧ allIn P.r P.k (l.drop j) = R ∧ Below w.heap.size w wr) (fun i wr => N - (intOf i).toNat)
  case atStart => exact ⟨0, by omega, rfl, by simpa using HR.out, by go_grown⟩
  case round =>
    obtain ⟨j, hjn, rfl, hp, hb⟩ := hrel
    by_cases hlt : j < N
    · obtain ⟨ad, rfl, had, d0, d1, d2⟩ := el (k := j) (lon HL.out hb) (by rw [HN.out]; exact hlt)
      rw [drop_at l (by rw [HN.out]; exact hlt), allIn_cons] at hp
      obtain ⟨x, hx⟩ : ∃ x, at_ l j = x := ⟨_, rfl⟩
      rw [hx] at d0 d1 d2 hp
      obtain ⟨r0, r1, r2, r3⟩ : x.Raw := hx ▸ HW.out _ (at_mem l (by rw [HN.out]; exact hlt))
      obtain ⟨a, n, b⟩ := x
      simp only at d0 d1 d2 r0 r1 r2 r3 hp
      have ua : u64in a := ⟨r0, r1⟩
      have un : u64in n := ⟨r2, by omega⟩
      clear hx
      have hsw := hb.size
      have HX := Lib.hid hp
      clear hp
      go_wp2_with fail
      have HM2 := Lib.hid (hP.below (hP.below HM.out hb) ((Below.refl wr.heap.size wr).alloc (Nat.le_refl _) (.cells #[.int .u64 a, .int .u32 n, .bool b] 73)))
      (with_reducible refine (hP.phas a n _ gp gd HM2.out ua un).mono ?_)
      rintro e W3 ⟨rfl, hg3⟩
      have hb3 : Below w.heap.size w W3 := (hb.alloc (by omega) (.cells #[.int .u64 a, .int .u32 n, .bool b] 73)).trans (hg3.mono (by simp; omega))
      cases ho : (place P.r P.k a n).isSome with
      | true =>
        have hd : allIn P.r P.k (l.drop (j + 1)) = R := by have := HX.out; rw [ho] at this; simpa using this
        have HD := Lib.hid hd
        clear hd ho hg3
        go_wp2_with fail
        go_roundw
        case rel => exact ⟨j + 1, by omega, by go_num, HD.out, hb3⟩
        case measure => simp [intOf]; omega
      | false =>
        obtain rfl : R = false := by have := HX.out; rw [ho] at this; simpa using this.symm
        clear ho hg3
        go_wp2_with fail
        go_ret
        exact ⟨rfl, hb3⟩
    · obtain rfl : j = N := by omega
      rw [List.drop_eq_nil_of_le (by rw [HN.out]; omega)] at hp
      obtain rfl : R = true := hp.symm
      clear hp
      go_wp2_with fail
      go_ret
      exact ⟨rfl, hb⟩


set_option maxRecDepth 100000 in
set_option maxHeartbeats 4000000 in
theorem in_d {P : Nums} {S top : Nat} {T : World → (Nat → Int) → (Nat → Int) → Prop} (hP : Pair P S top T) (gp gd : Nat → Int) (A : Option Addr) (c : Nat) (l : List S3) (w : World) (hM : T w gp gd) (hn : l.length ≤ 1000000) (hraw : ∀ x ∈ l, x.Raw) (h : Lst w w.heap.size A l) :
    Calls Try.prog 17 #[.pointer (some ⟨P.mm, 0, none⟩), .slice A l.length c] w fun e w' => e = .returned (.int .i64 (inL P.r P.k l)) ∧ Below w.heap.size w w' := by
  have hb0 : Below w.heap.size w w := Below.refl _ _
  have hCK := r_check A c l w (by omega) hraw h
  have HL := Lib.hid h
  have HW := Lib.hid hraw
  have HM := Lib.hid hM
  by_cases hk : checkL l = 0
  case neg =>
    have e1 : inL P.r P.k l = checkL l := by unfold inL; rw [if_neg hk]
    rw [e1]
    have h1 : (checkL l == 0) = false := by simp [hk]
    obtain ⟨CK, hC⟩ : ∃ CK, checkL l = CK := ⟨_, rfl⟩
    rw [hC] at h1 hCK ⊢
    have hp : 0 < l.length := by
      cases l with
      | nil => exact absurd rfl hk
      | cons x r => simp
    have HCK := Lib.hid hCK
    obtain ⟨N, hN⟩ : ∃ N, l.length = N := ⟨_, rfl⟩
    rw [hN] at HCK hn hp ⊢
    clear h hraw hM hk hC hN hCK e1
    go_enter Try.func17, Try.ntmps17
    go_wp2_with fail
    refine (HCK.out).mono ?_
    rintro eE W1 ⟨rfl, hg1⟩
    have hb1 : Below w.heap.size w W1 := (show Below w.heap.size w _ by go_grown).trans (hg1.mono (by first | omega | go_size))
    obtain ⟨hc1, hf1⟩ := bcell hg1
    have hs1 := hg1.size
    try simp only [World.size_alloc, World.size_setCell, World.size_drew] at hs1
    clear hg1 hc1 hf1
    go_wp2_with fail
    go_loopw [5, 6] (fun e i wr => e = .int .i64 CK ∧ i = .int .i64 ((0 : Nat) : Int) ∧ Below w.heap.size w wr) (fun e i wr => 0)
    case atStart => exact ⟨rfl, rfl, by go_grown⟩
    case round =>
      obtain ⟨rfl, rfl, hb⟩ := hrel
      have dk : decide (((0 : Nat) : Int) < (N : Int)) = true := decide_eq_true (by omega)
      have dk2 : decide (0 < N) = true := decide_eq_true hp
      go_wp2_with fail
      go_ret
      exact ⟨rfl, hb⟩
  obtain ⟨R, hR⟩ : ∃ R, allIn P.r P.k l = R := ⟨_, rfl⟩
  have e1 : inL P.r P.k l = if R = true then 0 else 5 := by unfold inL; rw [if_pos hk, hR]
  rw [e1]
  rw [hk] at hCK
  have HCK := Lib.hid hCK
  have HR := Lib.hid hR
  obtain ⟨N, hN⟩ : ∃ N, l.length = N := ⟨_, rfl⟩
  have HN := Lib.hid hN
  rw [hN] at HCK hn ⊢
  clear h hraw hM hk hR hN hCK e1
  go_enter Try.func17, Try.ntmps17
  go_wp2_with fail
  refine (HCK.out).mono ?_
  rintro eE W1 ⟨rfl, hg1⟩
  have hb1 : Below w.heap.size w W1 := (show Below w.heap.size w _ by go_grown).trans (hg1.mono (by first | omega | go_size))
  obtain ⟨hc1, hf1⟩ := bcell hg1
  have hs1 := hg1.size
  try simp only [World.size_alloc, World.size_setCell, World.size_drew] at hs1
  clear hg1 hc1 hf1
  go_wp2_with fail
  go_loopw [5, 6] (fun ev i wr => ∃ (j : Nat) (e : Int), j ≤ N ∧ ev = .int .i64 e ∧ i = .int .i64 j ∧ ((e = 0 ∧ allIn P.r P.k (l.drop j) = R) ∨ (e = 5 ∧ R = false)) ∧ Below w.heap.size w wr) (fun ev i wr => (if intOf ev = 0 then N + 1 else 0) + (N - (intOf i).toNat))
  case atStart => exact ⟨0, 0, by omega, rfl, rfl, .inl ⟨rfl, by simpa using HR.out⟩, by go_grown⟩
  case round =>
    obtain ⟨j, e, hjn, rfl, rfl, hp, hb⟩ := hrel
    rcases hp with ⟨rfl, hp⟩ | ⟨rfl, rfl⟩
    · by_cases hlt : j < N
      · obtain ⟨ad, rfl, had, d0, d1, d2⟩ := el (k := j) (lon HL.out hb) (by rw [HN.out]; exact hlt)
        rw [drop_at l (by rw [HN.out]; exact hlt), allIn_cons] at hp
        obtain ⟨x, hx⟩ : ∃ x, at_ l j = x := ⟨_, rfl⟩
        rw [hx] at d0 d1 d2 hp
        obtain ⟨r0, r1, r2, r3⟩ : x.Raw := hx ▸ HW.out _ (at_mem l (by rw [HN.out]; exact hlt))
        obtain ⟨a, n, b⟩ := x
        simp only at d0 d1 d2 r0 r1 r2 r3 hp
        have ua : u64in a := ⟨r0, r1⟩
        have un : u64in n := ⟨r2, by omega⟩
        clear hx
        have hsw := hb.size
        have HX := Lib.hid hp
        have dj : decide ((j : Int) < (N : Int)) = true := decide_eq_true (by omega)
        have g0 : IntKind.u64.wrap n = n := by rw [IntKind.wrap_u64]; omega
        have HK := Lib.hid (show ∀ W, Below wr.heap.size wr W → W.cell? (ad.add (j * 3)) = some (.int .u64 a) ∧ W.cell? ⟨(ad.add (j * 3)).block, (ad.add (j * 3)).off + 1, none⟩ = some (.int .u32 n) from fun W hW =>
          ⟨(hW.cell (p := ad.add (j * 3)) (by rw [block_of_add]; omega)).trans d0, (hW.cell (p := ⟨(ad.add (j * 3)).block, (ad.add (j * 3)).off + 1, none⟩) (by show (ad.add (j * 3)).block < _; rw [block_of_add]; omega)).trans d1⟩)
        have HT := Lib.hid (show ∀ W, Below wr.heap.size wr W → Calls Try.prog 48 #[.pointer (some ⟨P.mm, 0, none⟩), .int .u64 a, .int .u64 n] W (GmWord.Gives W.heap.size W (.bool (place P.r P.k a n).isSome)) from fun W hW => hP.dhas a n W gp gd (hP.below (hP.below HM.out hb) hW) ua un)
        have hb0r : Below wr.heap.size wr wr := Below.refl _ _
        clear hp d0 d1 d2
        obtain ⟨q, hq⟩ : ∃ q, (place P.r P.k a n).isSome = q := ⟨_, rfl⟩
        rw [hq] at HT HX
        have HQ := Lib.hid hq
        clear hq
        go_wp2_with fail
        refine Lib.wp_region_class (Lib.Held wr _ []) (by kernel_rfl) (by kernel_rfl) ⟨by go_grown, Below.refl _ _, trivial⟩ ?_
        repeat (first | go_big_quiet_step ((intro hq; first | rfl | (go_at_call 48; exact Lib.Held.call hq (HT.out _ hq.1)) | (obtain ⟨c0, c1⟩ := HK.out _ hq.1; go_simp; rfl) | (have hq' := hq; obtain ⟨hbq, heq, _⟩ := hq'; go_simp; rfl))) | quiet_step ((intro hq; first | rfl | (go_at_call 48; exact Lib.Held.call hq (HT.out _ hq.1)) | (obtain ⟨c0, c1⟩ := HK.out _ hq.1; go_simp; rfl) | (have hq' := hq; obtain ⟨hbq, heq, _⟩ := hq'; go_simp; rfl))))
        refine wpQuiet_nil ?_
        intro W9 hq9
        obtain ⟨hb9, he9, _⟩ := hq9
        have hs9 := he9.size
        try simp only [World.size_alloc, World.size_setCell, World.size_drew] at hs9
        have hbw9 : Below w.heap.size w W9 := hb.trans (hb9.mono hsw)
        cases q with
        | true =>
          have HD := Lib.hid (show allIn P.r P.k (l.drop (j + 1)) = R from by have := HX.out; simpa using this)
          go_wp2_with fail
          go_roundw
          case rel => exact ⟨j + 1, 0, by omega, rfl, by go_num, .inl ⟨rfl, HD.out⟩, hbw9⟩
          case measure => simp [intOf]; omega
        | false =>
          have HD := Lib.hid (show R = false from by have := HX.out; simpa using this.symm)
          go_wp2_with fail
          go_roundw
          case rel => exact ⟨j + 1, 5, by omega, rfl, by go_num, .inr ⟨rfl, HD.out⟩, hbw9⟩
          case measure => simp [intOf]; omega
      · obtain rfl : j = N := by omega
        have dj : decide ((j : Int) < (j : Int)) = false := decide_eq_false (by omega)
        rw [List.drop_eq_nil_of_le (by rw [HN.out]; omega)] at hp
        obtain rfl : R = true := hp.symm
        clear hp
        go_wp2_with fail
        go_ret
        exact ⟨rfl, hb⟩
    · by_cases hlt : j < N
      · have dj : decide ((j : Int) < (N : Int)) = true := decide_eq_true (by omega)
        go_wp2_with fail
        go_ret
        exact ⟨rfl, hb⟩
      · have dj : decide ((j : Int) < (N : Int)) = false := decide_eq_false (by omega)
        go_wp2_with fail
        go_ret
        exact ⟨rfl, hb⟩

end Go.Proofs.Ytkejcdephnkkgaa.SgMem
