/- The document's buffers (dumbwaiterref05): Check. -/
import Derived.Test.YtkejcdephnkkgaaSgCheck
import Derived.RegionTactic
import Derived.Test.YtkejcdephnkkgaaHeld
namespace Go.Proofs.Ytkejcdephnkkgaa.SgR1
open Go.RowKit Rw Sg SgCheck
set_option linter.unusedVariables false
set_option linter.unusedSimpArgs false

set_option maxRecDepth 100000 in
set_option maxHeartbeats 8000000 in
theorem r_check (A : Option Addr) (c : Nat) (l : List S3) (w : World) (hn : l.length ≤ 1000000000) (hraw : ∀ x ∈ l, x.Raw) (h : Lst w w.heap.size A l) :
    Calls Try.prog 15 #[.slice A l.length c] w fun e w' => e = .returned (.int .i64 (checkL l)) ∧ Below w.heap.size w w' := by
  by_cases hk : 64 < l.length
  case pos =>
    have e : checkL l = 3 := by unfold checkL; rw [if_pos hk]
    have h1 : decide ((64 : Int) < (l.length : Int)) = true := decide_eq_true (by omega)
    rw [e]
    go_enter Try.func15, Try.ntmps15
    go_wp2
    go_ret
    exact ⟨rfl, by go_grown⟩
  obtain ⟨R, hR⟩ : ∃ R, chk 0 false l = R := ⟨_, rfl⟩
  have e : checkL l = R := by unfold checkL; rw [if_neg hk, hR]
  rw [e]
  have HL := Lib.hid h
  have HR := Lib.hid hR
  have HW := Lib.hid hraw
  clear h hR hraw e
  obtain ⟨N, hN⟩ : ∃ N, l.length = N := ⟨_, rfl⟩
  have HN := Lib.hid hN
  rw [hN] at hk hn ⊢
  clear hN
  have h1 : decide ((64 : Int) < (N : Int)) = false := decide_eq_false (by omega)
  go_enter Try.func15, Try.ntmps15
  go_wp2_with fail
  go_loopw [3, 4] (fun s i wr => ∃ (k : Nat) (sm : Int) (t : Bool), k ≤ N ∧ s = .int .u64 sm ∧ i = .int .i64 ((k : Nat) : Int) ∧ 0 ≤ sm ∧ sm ≤ k * 4294967295 ∧ Hid (chk sm t (l.drop k) = R) ∧ Hid ((k = 0 → t = false) ∧ (0 < k → t = (at_ l (k - 1)).w)) ∧ Below w.heap.size w wr) (fun s i wr => N - (intOf i).toNat)
  case atStart => exact ⟨0, 0, false, by omega, rfl, rfl, by omega, by omega, Lib.hid HR.out, Lib.hid ⟨fun _ => rfl, fun h => absurd h (by omega)⟩, by go_grown⟩
  case round =>
    obtain ⟨k, sm, t, hkn, rfl, rfl, hs0, hs1, HCh, HT, hb⟩ := hrel
    by_cases hlt : k < N
    · obtain ⟨ad, rfl, had, c0, c1, c2⟩ := el (k := k) (HL.out.below hb) (by rw [HN.out]; exact hlt)
      have hch := HCh.out
      rw [drop_at l (by rw [HN.out]; exact hlt)] at hch
      obtain ⟨x, hx⟩ : ∃ x, at_ l k = x := ⟨_, rfl⟩
      have HX := Lib.hid hx
      rw [hx] at c0 c1 c2 hch
      obtain ⟨r0, r1, r2, r3⟩ : x.Raw := hx ▸ HW.out _ (at_mem l (by rw [HN.out]; exact hlt))
      obtain ⟨a, n, b⟩ := x
      simp only at c0 c1 c2 r0 r1 r2 r3
      rw [chk_cons] at hch
      simp only at hch
      have HCH := Lib.hid hch
      clear hx hch HCh
      have hsw := hb.size
      have dk : decide (((k : Nat) : Int) < ((N : Nat) : Int)) = true := decide_eq_true (by omega)
      have g0 : IntKind.u64.wrap n = n := by rw [IntKind.wrap_u64]; omega
      have HK := Lib.hid (show ∀ W, Below wr.heap.size wr W → W.cell? (ad.add (k * 3)) = some (.int .u64 a) ∧ W.cell? ⟨(ad.add (k * 3)).block, (ad.add (k * 3)).off + 1, none⟩ = some (.int .u32 n) ∧ W.cell? ⟨(ad.add (k * 3)).block, (ad.add (k * 3)).off + 2, none⟩ = some (.bool b) from fun W hW =>
        ⟨(hW.cell (p := ad.add (k * 3)) (by rw [block_of_add]; omega)).trans c0, (hW.cell (p := ⟨(ad.add (k * 3)).block, (ad.add (k * 3)).off + 1, none⟩) (by show (ad.add (k * 3)).block < _; rw [block_of_add]; omega)).trans c1, (hW.cell (p := ⟨(ad.add (k * 3)).block, (ad.add (k * 3)).off + 2, none⟩) (by show (ad.add (k * 3)).block < _; rw [block_of_add]; omega)).trans c2⟩)
      have hb0r : Below wr.heap.size wr wr := Below.refl _ _
      clear c0 c1 c2
      by_cases n0 : n = 0
      · subst n0
        have e2 : R = 2 := by rw [← HCH.out, if_pos (.inl rfl)]
        subst e2
        go_wp2_with fail
        refine Lib.wp_region_class (Lib.Held wr _ []) (by kernel_rfl) (by kernel_rfl) ⟨by go_grown, Below.refl _ _, trivial⟩ ?_
        repeat (first | go_big_quiet_step ((intro hq; first | rfl | (obtain ⟨c0, c1, c2⟩ := HK.out _ hq.1; go_simp; rfl) | (have hq' := hq; obtain ⟨hbq, heq, _⟩ := hq'; go_simp; rfl))) | quiet_step ((intro hq; first | rfl | (obtain ⟨c0, c1, c2⟩ := HK.out _ hq.1; go_simp; rfl) | (have hq' := hq; obtain ⟨hbq, heq, _⟩ := hq'; go_simp; rfl))))
        refine wpQuiet_nil ?_
        intro W9 hq9
        obtain ⟨hb9, he9, _⟩ := hq9
        have hs9 := he9.size
        try simp only [World.size_alloc, World.size_setCell, World.size_drew] at hs9
        obtain ⟨c0, c1, c2⟩ := HK.out _ hb9
        go_wp2_with fail
        go_ret
        exact ⟨rfl, hb.trans (hb9.mono hsw)⟩
      · have f1 : (n == 0) = false := by simp; omega
        have g2 : IntKind.u64.wrap (n - 1) = n - 1 := by rw [IntKind.wrap_u64]; omega
        by_cases ov : 18446744073709551615 - a < n - 1
        · have g3 : IntKind.u64.wrap (a + (n - 1)) = a + (n - 1) - 18446744073709551616 := by rw [IntKind.wrap_u64]; omega
          have f2 : decide (a + (n - 1) - 18446744073709551616 < a) = true := decide_eq_true (by omega)
          have e2 : R = 2 := by rw [← HCH.out, if_pos (.inr ov)]
          subst e2
          clear n0 ov
          go_wp2_with fail
          refine Lib.wp_region_class (Lib.Held wr _ []) (by kernel_rfl) (by kernel_rfl) ⟨by go_grown, Below.refl _ _, trivial⟩ ?_
          repeat (first | go_big_quiet_step ((intro hq; first | rfl | (obtain ⟨c0, c1, c2⟩ := HK.out _ hq.1; go_simp; rfl) | (have hq' := hq; obtain ⟨hbq, heq, _⟩ := hq'; go_simp; rfl))) | quiet_step ((intro hq; first | rfl | (obtain ⟨c0, c1, c2⟩ := HK.out _ hq.1; go_simp; rfl) | (have hq' := hq; obtain ⟨hbq, heq, _⟩ := hq'; go_simp; rfl))))
          refine wpQuiet_nil ?_
          intro W9 hq9
          obtain ⟨hb9, he9, _⟩ := hq9
          have hs9 := he9.size
          try simp only [World.size_alloc, World.size_setCell, World.size_drew] at hs9
          obtain ⟨c0, c1, c2⟩ := HK.out _ hb9
          go_wp2_with fail
          go_ret
          exact ⟨rfl, hb.trans (hb9.mono hsw)⟩
        · have g3 : IntKind.u64.wrap (a + (n - 1)) = a + (n - 1) := by rw [IntKind.wrap_u64]; omega
          have f2 : decide (a + (n - 1) < a) = false := decide_eq_false (by omega)
          have f4 : IntKind.u64.wrap (sm + n) = sm + n := by rw [IntKind.wrap_u64]; omega
          have HO := Lib.hid ov
          have HN0 := Lib.hid n0
          clear n0 ov
          have hno : ¬ (n = 0 ∨ 18446744073709551615 - a < n - 1) := by have := HO.out; have := HN0.out; omega
          have HE := Lib.hid (show (if t = true ∧ b = false then 2 else chk (sm + n) b (l.drop (k + 1))) = R by rw [← HCH.out, if_neg hno])
          clear hno HCH
          have HNX := Lib.hid (show (k + 1 = 0 → b = false) ∧ (0 < k + 1 → b = (at_ l (k + 1 - 1)).w) from ⟨fun h => absurd h (by omega), fun _ => by rw [Nat.add_sub_cancel, HX.out]⟩)
          by_cases hk0 : k = 0
          · have ht := HT.out.1 hk0
            subst ht
            have hz : ad.add (k * 3) = ad := by rw [hk0, Nat.zero_mul]; unfold Addr.add; rw [if_pos rfl]
            have HKz := Lib.hid (show ∀ W, Below wr.heap.size wr W → W.cell? ad = some (.int .u64 a) ∧ W.cell? ⟨ad.block, ad.off + 1, none⟩ = some (.int .u32 n) ∧ W.cell? ⟨ad.block, ad.off + 2, none⟩ = some (.bool b) from fun W hW => by have := HK.out W hW; rw [hz] at this; exact this)
            clear hz HK
            subst hk0
            have e2 : chk (sm + n) b (l.drop 1) = R := by rw [← HE.out, if_neg (by simp)]
            have HE2 := Lib.hid e2
            clear e2
            go_wp2_with fail
            refine Lib.wp_region_class (Lib.Held wr _ []) (by kernel_rfl) (by kernel_rfl) ⟨by go_grown, Below.refl _ _, trivial⟩ ?_
            repeat (first | go_big_quiet_step ((intro hq; first | (obtain ⟨c0, c1, c2⟩ := HKz.out _ hq.1; go_simp; rfl) | (have hq' := hq; obtain ⟨hbq, heq, _⟩ := hq'; go_simp; rfl))) | quiet_step ((intro hq; first | (obtain ⟨c0, c1, c2⟩ := HKz.out _ hq.1; go_simp; rfl) | (have hq' := hq; obtain ⟨hbq, heq, _⟩ := hq'; go_simp; rfl))))
            refine wpQuiet_nil ?_
            intro W9 hq9
            obtain ⟨hb9, he9, _⟩ := hq9
            have hs9 := he9.size
            try simp only [World.size_alloc, World.size_setCell, World.size_drew] at hs9
            obtain ⟨c0, c1, c2⟩ := HKz.out _ hb9
            go_wp2_with fail
            go_roundw
            case rel => exact ⟨1, sm + n, b, by omega, rfl, by go_num, by omega, by omega, HE2, HNX, hb.trans (hb9.mono hsw)⟩
            case measure => simp [intOf]; omega
          · obtain ⟨p, hp⟩ : ∃ p, k - 1 = p := ⟨_, rfl⟩
            have ht := HT.out.2 (by omega)
            rw [hp] at ht
            obtain ⟨ad', e', _, p0, p1, p2⟩ := el (k := p) (HL.out.below hb) (by rw [HN.out]; omega)
            injection e' with e'
            subst e'
            rw [← ht] at p2
            have dk0 : decide ((0 : Int) < ((k : Nat) : Int)) = true := decide_eq_true (by omega)
            have gp : IntKind.i64.wrap (((k : Nat) : Int) - 1) = ((p : Nat) : Int) := by rw [IntKind.wrap_i64]; omega
            have hpN : p < N := by omega
            have dk0n : decide (0 < k) = true := decide_eq_true (by omega)
            have HP := Lib.hid (show ∀ W, Below wr.heap.size wr W → W.cell? ⟨(ad.add (p * 3)).block, (ad.add (p * 3)).off + 2, none⟩ = some (.bool t) from fun W hW => (hW.cell (p := ⟨(ad.add (p * 3)).block, (ad.add (p * 3)).off + 2, none⟩) (by show (ad.add (p * 3)).block < _; rw [block_of_add]; omega)).trans p2)
            clear ht p0 p1 p2 hp hk0
            cases t with
            | true =>
              cases b with
              | true =>
                have e2 : chk (sm + n) true (l.drop (k + 1)) = R := by rw [← HE.out, if_neg (by simp)]
                have HE2 := Lib.hid e2
                clear e2
                go_wp2_with fail
                refine Lib.wp_region_class (Lib.Held wr _ []) (by kernel_rfl) (by kernel_rfl) ⟨by go_grown, Below.refl _ _, trivial⟩ ?_
                repeat (first | go_big_quiet_step ((intro hq; first | (obtain ⟨c0, c1, c2⟩ := HK.out _ hq.1; go_simp; rfl) | (have p2 := HP.out _ hq.1; go_simp; rfl) | (have hq' := hq; obtain ⟨hbq, heq, _⟩ := hq'; go_simp; rfl))) | quiet_step ((intro hq; first | (obtain ⟨c0, c1, c2⟩ := HK.out _ hq.1; go_simp; rfl) | (have p2 := HP.out _ hq.1; go_simp; rfl) | (have hq' := hq; obtain ⟨hbq, heq, _⟩ := hq'; go_simp; rfl))))
                refine wpQuiet_nil ?_
                intro W9 hq9
                obtain ⟨hb9, he9, _⟩ := hq9
                have hs9 := he9.size
                try simp only [World.size_alloc, World.size_setCell, World.size_drew] at hs9
                obtain ⟨c0, c1, c2⟩ := HK.out _ hb9
                go_wp2_with fail
                go_roundw
                case rel => exact ⟨k + 1, sm + n, true, by omega, rfl, by go_num, by omega, by omega, HE2, HNX, hb.trans (hb9.mono hsw)⟩
                case measure => simp [intOf]; omega
              | false =>
                have e2 : R = 2 := by rw [← HE.out, if_pos (by simp)]
                subst e2
                go_wp2_with fail
                refine Lib.wp_region_class (Lib.Held wr _ []) (by kernel_rfl) (by kernel_rfl) ⟨by go_grown, Below.refl _ _, trivial⟩ ?_
                repeat (first | go_big_quiet_step ((intro hq; first | (obtain ⟨c0, c1, c2⟩ := HK.out _ hq.1; go_simp; rfl) | (have p2 := HP.out _ hq.1; go_simp; rfl) | (have hq' := hq; obtain ⟨hbq, heq, _⟩ := hq'; go_simp; rfl))) | quiet_step ((intro hq; first | (obtain ⟨c0, c1, c2⟩ := HK.out _ hq.1; go_simp; rfl) | (have p2 := HP.out _ hq.1; go_simp; rfl) | (have hq' := hq; obtain ⟨hbq, heq, _⟩ := hq'; go_simp; rfl))))
                refine wpQuiet_nil ?_
                intro W9 hq9
                obtain ⟨hb9, he9, _⟩ := hq9
                have hs9 := he9.size
                try simp only [World.size_alloc, World.size_setCell, World.size_drew] at hs9
                obtain ⟨c0, c1, c2⟩ := HK.out _ hb9
                go_wp2_with fail
                go_ret
                exact ⟨rfl, hb.trans (hb9.mono hsw)⟩
            | false =>
              have e2 : chk (sm + n) b (l.drop (k + 1)) = R := by rw [← HE.out, if_neg (by simp)]
              have HE2 := Lib.hid e2
              clear e2
              go_wp2_with fail
              refine Lib.wp_region_class (Lib.Held wr _ []) (by kernel_rfl) (by kernel_rfl) ⟨by go_grown, Below.refl _ _, trivial⟩ ?_
              repeat (first | go_big_quiet_step ((intro hq; first | (obtain ⟨c0, c1, c2⟩ := HK.out _ hq.1; go_simp; rfl) | (have p2 := HP.out _ hq.1; go_simp; rfl) | (have hq' := hq; obtain ⟨hbq, heq, _⟩ := hq'; go_simp; rfl))) | quiet_step ((intro hq; first | (obtain ⟨c0, c1, c2⟩ := HK.out _ hq.1; go_simp; rfl) | (have p2 := HP.out _ hq.1; go_simp; rfl) | (have hq' := hq; obtain ⟨hbq, heq, _⟩ := hq'; go_simp; rfl))))
              refine wpQuiet_nil ?_
              intro W9 hq9
              obtain ⟨hb9, he9, _⟩ := hq9
              have hs9 := he9.size
              try simp only [World.size_alloc, World.size_setCell, World.size_drew] at hs9
              obtain ⟨c0, c1, c2⟩ := HK.out _ hb9
              go_wp2_with fail
              go_roundw
              case rel => exact ⟨k + 1, sm + n, b, by omega, rfl, by go_num, by omega, by omega, HE2, HNX, hb.trans (hb9.mono hsw)⟩
              case measure => simp [intOf]; omega
    · obtain rfl : k = N := by omega
      have dk : decide (((k : Nat) : Int) < ((k : Nat) : Int)) = false := decide_eq_false (by omega)
      have hd : l.drop k = [] := List.drop_eq_nil_of_le (by rw [HN.out]; omega)
      have hch := HCh.out
      rw [hd] at hch
      unfold chk at hch
      by_cases hbig : 4294967295 < sm
      · have d2 : decide (4294967296 ≤ sm) = true := decide_eq_true (by omega)
        have e2 : R = 2 := by rw [← hch, if_pos hbig]
        subst e2
        clear hch hd
        go_wp2_with fail
        go_ret
        exact ⟨rfl, by go_grown⟩
      · have d2 : decide (4294967296 ≤ sm) = false := decide_eq_false (by omega)
        have e2 : R = 0 := by rw [← hch, if_neg hbig]
        subst e2
        clear hch hd
        go_wp2_with fail
        go_ret
        exact ⟨rfl, by go_grown⟩

end Go.Proofs.Ytkejcdephnkkgaa.SgR1
