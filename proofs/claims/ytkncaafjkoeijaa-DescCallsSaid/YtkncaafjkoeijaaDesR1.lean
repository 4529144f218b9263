/- The document's own descriptors: put, get, Read, ReadPacked, the words. -/
import Derived.Test.YtkncaafjkoeijaaDesRead
import Derived.Test.YtkncaafjkoeijaaDesTab
import Derived.Test.YtkncaafjkoeijaaDesRT
import Derived.Test.YtkncaafjkoeijaaDesWord
import Derived.Test.YtkncaafjkoeijaaOwn
import Derived.Test.YtkncaafjkoeijaaSetN
import Derived.Test.YtkncaafjkoeijaaGmWordsM
namespace Go.Proofs.Ytkncaafjkoeijaa.DesR1
open Go.RowKit Rw Le DesPut DesRead DesTab DesRT
open Go.Proofs.Ytkncaafjkoeijaa.Own (own_slice own_block own_ne)
set_option linter.unusedVariables false
set_option linter.unusedSimpArgs false

/-- The first bytes of a word. -/
def lows (x : Int) (n : Nat) : List Value := (List.range n).map (u8F (byteI x))
theorem lows_succ (x : Int) (k : Nat) : lows x (k + 1) = lows x k ++ [.int .u8 (byteI x k)] := by unfold lows; rw [List.range_succ, List.map_append]; rfl

set_option maxRecDepth 100000 in
set_option maxHeartbeats 2000000 in
theorem r_put (B N n : Nat) (v : Value) (xs : List Value) (x : Int) (w : World) (hown : w.ownsRow B 5 1 v N xs) (hB : B ≤ w.heap.size) (hN : N ≤ 1000000) (hn : n ≤ 8) (hx : 0 ≤ x ∧ x ≤ 18446744073709551615) :
    Calls Try.prog 108 #[v, .int .u64 x, .int .i64 n] w fun e w' => ∃ v', e = .returned v' ∧ w'.ownsRow B 5 1 v' (N + n) (xs ++ lows x n) ∧ Below B w w' := by
  obtain ⟨A, c, rfl⟩ := own_slice hown
  obtain ⟨i0, hi, hz0, hz1, hz2⟩ := info_parts u8info
  have H0 := Lib.hid hi
  have H1 := Lib.hid hz0
  have H2 := Lib.hid hz1
  have H3 := Lib.hid hz2
  have HO := Lib.hid hown
  clear hi hz0 hz1 hz2 hown
  go_enter Try.func108, Try.ntmps108
  go_wp2_with fail
  go_loopw [0, 7] (fun s i wr => ∃ (k : Nat) (A' : Option Addr) (c' : Nat), k ≤ n ∧ i = .int .i64 k ∧ s = .slice A' (N + k) c' ∧ wr.ownsRow B 5 1 (.slice A' (N + k) c') (N + k) (xs ++ lows x k) ∧ Below B w wr) (fun s i wr => n - (intOf i).toNat)
  case atStart => exact ⟨0, A, c, by omega, rfl, rfl, by simpa [lows] using HO.out, Below.refl _ _⟩
  case round =>
    obtain ⟨k, A', c', hk, rfl, rfl, ho, hb⟩ := hrel
    have hsz := hb.size
    by_cases hlt : k < n
    · have j1 : IntKind.i64.wrap (8 * (k : Int)) = ((8 * k : Nat) : Int) := by rw [IntKind.wrap_i64]; omega
      have j2 : IntKind.u64.wrap ((8 * k : Nat) : Int) = ((8 * k : Nat) : Int) := by rw [IntKind.wrap_u64]; omega
      have j3 : (((8 * k : Nat) : Int)).toNat = 8 * k := Int.toNat_natCast _
      have j4 : IntKind.u8.wrap (x / 2 ^ (8 * k)) = byteI x k := by rw [IntKind.wrap_u8']; rfl
      have HOk := Lib.hid ho
      have HO2 := Lib.hid (ho.alloc (.cells #[.int .u8 (byteI x k)] 5))
      have HN2 := Lib.hid (show ∀ j u, [Value.int .u8 (byteI x k)][j]? = some u → (wr.alloc (.cells #[.int .u8 (byteI x k)] 5)).cell? ((⟨wr.heap.size, 0, none⟩ : Addr).add j) = some u from by
        intro j u hu
        match j, hu with
        | 0, hu => cases hu; exact World.cell?_alloc_new _ _ _ _)
      clear ho
      go_wp2_with (at_builtin; refine wpList_append_own _ rfl _ _ 37 rfl B 5 i0 (.int .u8 0) 1 1 Try.underlying37 H0.out H1.out H2.out H3.out rfl (by decide) (.slice A' (N + k) c') (N + k) (xs ++ lows x k) rfl HO2.out ⟨wr.heap.size, 0, none⟩ 1 1 [.int .u8 (byteI x k)] rfl rfl HN2.out (by simp [Value.oneCell']) (by unfold maxLen; omega) (by omega) (by simp; omega) ?_)
      intro v7 W4 hown4 hg4 _
      obtain ⟨A4, C4, rfl⟩ := own_slice hown4
      have hbk : ∀ g, (Value.slice A' (N + k) c').ownBlock = some g → B ≤ g := own_block HOk.out
      have hb4 : Below B w W4 := (hb.alloc (by omega) (.cells #[.int .u8 (byteI x k)] 5)).grown hg4 (by simp; omega) hbk
      have H6 := Lib.hid (And.intro hown4 hb4)
      clear hown4 hg4 hb4
      go_wp2_with fail
      go_roundw
      case rel => exact ⟨k + 1, A4, C4, by omega, by go_num, rfl, by have h6 := H6.out.1; rw [Nat.add_assoc] at h6; rw [lows_succ]; exact h6, H6.out.2⟩
      case measure => simp [intOf]; omega
    · obtain rfl : k = n := by omega
      have HH := Lib.hid (And.intro ho hb)
      clear ho hb
      go_wp2_with fail
      go_ret
      exact ⟨_, rfl, HH.out.1, HH.out.2⟩

theorem word_cons (h : Nat → Int) (m : Nat) : wordI h (m + 1) = h 0 + 256 * wordI (fun j => h (1 + j)) m := by
  have := GmWordsM.word_split h 1 m
  rw [Nat.add_comm 1 m] at this
  rw [this]
  have e1 : wordI h 1 = h 0 := by show (0 : Int) + h 0 * 2 ^ (8 * 0) = h 0; simp
  have e2 : (2 : Int) ^ (8 * 1) = 256 := by decide
  rw [e1, e2]

set_option maxRecDepth 100000 in
set_option maxHeartbeats 2000000 in
theorem r_get (ad : Addr) (M c at_ n : Nat) (g : Nat → Int) (w : World) (hn : 1 ≤ n ∧ n ≤ 8) (ha : at_ + n ≤ M) (hM : M ≤ 1000000) (hg : Bytes g M) (hr : IsRow w w.heap.size 1 (some ad) M (u8F g)) :
    Calls Try.prog 104 #[.slice (some ad) M c, .int .i64 at_, .int .i64 n] w fun e w' => e = .returned (.int .u64 (wordI (fun j => g (at_ + j)) n)) ∧ w = w' := by
  obtain ⟨ad', e, hbl, hcell⟩ := hr (by omega)
  cases e
  have HC := Lib.hid hcell
  have HG := Lib.hid hg
  have i0 : IntKind.i64.wrap ((n : Int) - 1) = (n : Int) - 1 := by rw [IntKind.wrap_i64]; omega
  clear hcell hg
  go_enter Try.func104, Try.ntmps104
  go_wp2_with fail
  go_loop [7, 8] (fun v i => ∃ k : Nat, k ≤ n ∧ i = .int .i64 ((k : Int) - 1) ∧ v = .int .u64 (wordI (fun j => g (at_ + (k + j))) (n - k))) (fun v i => (1 + intOf i).toNat)
  case atStart => exact ⟨n, by omega, rfl, by rw [Nat.sub_self]; rfl⟩
  case round =>
    obtain ⟨k, hk, rfl, rfl⟩ := hrel
    by_cases hk0 : k = 0
    · subst hk0
      have hd : decide (0 ≤ ((0 : Nat) : Int) - 1) = false := by decide
      have hw : wordI (fun j => g (at_ + (0 + j))) (n - 0) = wordI (fun j => g (at_ + j)) n := word_congr fun j _ => by rw [Nat.zero_add]
      rw [hw]
      clear hw
      go_wp2_with fail
      go_ret
      exact ⟨rfl, rfl⟩
    · obtain ⟨q, rfl⟩ : ∃ q, k = q + 1 := ⟨k - 1, by omega⟩
      have hd : decide (0 ≤ ((q + 1 : Nat) : Int) - 1) = true := decide_eq_true (by omega)
      have j1 : IntKind.i64.wrap ((at_ : Int) + (((q + 1 : Nat) : Int) - 1)) = ((at_ + q : Nat) : Int) := by rw [IntKind.wrap_i64]; omega
      have j2 : (((at_ + q : Nat) : Int)).toNat = at_ + q := Int.toNat_natCast _
      have c0 : w.cell? (ad.add (at_ + q)) = some (.int .u8 (g (at_ + q))) := HC.out (at_ + q) (by omega)
      have hb := HG.out (at_ + q) (by omega)
      have hW := word_lo (g := fun j => g (at_ + (q + 1 + j))) (n := n - (q + 1)) (fun i hi => HG.out _ (by omega))
      have hp : (2 : Int) ^ (8 * (n - (q + 1))) ≤ 2 ^ (8 * 7) := pow_le8 (by omega)
      have hp7 : (2 : Int) ^ (8 * 7) = 72057594037927936 := by decide
      have hs : wordI (fun j => g (at_ + (q + j))) (n - q) = g (at_ + q) + 256 * wordI (fun j => g (at_ + (q + 1 + j))) (n - (q + 1)) := by
        rw [show n - q = (n - (q + 1)) + 1 from by omega, word_cons]
        congr 2
        exact word_congr fun j _ => by congr 1; omega
      obtain ⟨Y, hY⟩ : ∃ Y, g (at_ + q) = Y := ⟨_, rfl⟩
      obtain ⟨Z, hZ⟩ : ∃ Z, wordI (fun j => g (at_ + (q + 1 + j))) (n - (q + 1)) = Z := ⟨_, rfl⟩
      rw [hY, hZ] at hs
      rw [hY] at c0 hb
      rw [hZ] at hW
      rw [hZ]
      have j3 : IntKind.u64.wrap (256 * Z) = 256 * Z := by rw [IntKind.wrap_u64]; omega
      have j4 : IntKind.u64.wrap (256 * Z + Y) = 256 * Z + Y := by rw [IntKind.wrap_u64]; omega
      have j5 : IntKind.u64.wrap Y = Y := by rw [IntKind.wrap_u64]; omega
      have HS := Lib.hid hs
      have hin : (at_ + q : Nat) < M := by omega
      clear hs hY hZ hp hp7
      go_wp2_with fail
      go_round
      case rel => exact ⟨q, by omega, by go_num, by rw [HS.out, Int.add_comm]⟩
      case measure => simp [intOf]; omega

theorem r_read_no (A : Option Addr) (n c : Nat) (w : World) (hn : n ≠ 16) : Calls Try.prog 36 #[.slice A n c] w (Gives w.heap.size w (.tuple #[descV 0 0 0 0, .int .i64 4])) := by
  unfold Gives
  have h : ((n : Int) != 16) = true := by simpa using (show ¬ (n : Int) = 16 by omega)
  go_enter Try.func36, Try.ntmps36
  go_wp2
  go_returns
  exact ⟨rfl, by go_grown⟩
theorem r_pread_no (A : Option Addr) (n c : Nat) (w : World) (hn : n ≠ 16) : Calls Try.prog 38 #[.slice A n c] w (Gives w.heap.size w (.tuple #[descV 0 0 0 0, .int .i64 4])) := by
  unfold Gives
  have h : ((n : Int) != 16) = true := by simpa using (show ¬ (n : Int) = 16 by omega)
  go_enter Try.func38, Try.ntmps38
  go_wp2
  go_returns
  exact ⟨rfl, by go_grown⟩
theorem get_fields {g : Nat → Int} (hg : Bytes g 16) : wordI (fun j => g (0 + j)) 8 = fA g ∧ IntKind.u32.wrap (wordI (fun j => g (8 + j)) 4) = fL g ∧ IntKind.u16.wrap (wordI (fun j => g (12 + j)) 2) = fF g ∧ IntKind.u16.wrap (wordI (fun j => g (14 + j)) 2) = fX g := by
  have h := f_in hg
  refine ⟨word_congr fun j _ => by rw [Nat.zero_add], ?_, ?_, ?_⟩
  · show IntKind.u32.wrap (fL g) = fL g; rw [IntKind.wrap_u32']; exact Int.emod_eq_of_lt h.l0 (by have := h.l1; omega)
  · show IntKind.u16.wrap (fF g) = fF g; rw [IntKind.wrap_u16]; exact Int.emod_eq_of_lt h.f0 (by have := h.f1; omega)
  · show IntKind.u16.wrap (fX g) = fX g; rw [IntKind.wrap_u16]; exact Int.emod_eq_of_lt h.x0 (by have := h.x1; omega)

set_option maxRecDepth 100000 in
set_option maxHeartbeats 2000000 in
theorem r_read_is (ad : Addr) (c : Nat) (g : Nat → Int) (w : World) (hg : Bytes g 16) (hr : IsRow w w.heap.size 1 (some ad) 16 (u8F g)) :
    Calls Try.prog 36 #[.slice (some ad) 16 c] w (Gives w.heap.size w (.tuple #[descV (fA g) (fL g) (fF g) (fX g), .int .i64 0])) := by
  unfold Gives
  have hb0 : Below w.heap.size w w := Below.refl _ _
  obtain ⟨e1, e2, e3, e4⟩ := get_fields hg
  have HG := Lib.hid (fun (at_ n : Nat) (h1 : 1 ≤ n ∧ n ≤ 8) (h2 : at_ + n ≤ 16) (W : World) (hW : Below w.heap.size w W) => r_get ad 16 c at_ n g W h1 h2 (by decide) hg ((hr.below hW).more hW.size))
  clear hg hr
  go_enter Try.func36, Try.ntmps36
  go_wp2_with fail
  refine (HG.out 0 8 (by decide) (by decide) _ (by go_grown)).mono ?_
  rintro e W1 ⟨rfl, rfl⟩
  go_wp2_with fail
  refine (HG.out 8 4 (by decide) (by decide) _ (by go_grown)).mono ?_
  rintro e W1 ⟨rfl, rfl⟩
  go_wp2_with fail
  refine (HG.out 12 2 (by decide) (by decide) _ (by go_grown)).mono ?_
  rintro e W1 ⟨rfl, rfl⟩
  go_wp2_with fail
  refine (HG.out 14 2 (by decide) (by decide) _ (by go_grown)).mono ?_
  rintro e W1 ⟨rfl, rfl⟩
  go_wp2_with fail
  go_returns
  exact ⟨rfl, by go_grown⟩
set_option maxRecDepth 100000 in
set_option maxHeartbeats 2000000 in
theorem r_pread_is (ad : Addr) (c : Nat) (g : Nat → Int) (w : World) (hg : Bytes g 16) (hr : IsRow w w.heap.size 1 (some ad) 16 (u8F g)) :
    Calls Try.prog 38 #[.slice (some ad) 16 c] w (Gives w.heap.size w (.tuple #[descV (fA g) (fL g) (fF g) (fX g), .int .i64 0])) := by
  unfold Gives
  have hb0 : Below w.heap.size w w := Below.refl _ _
  obtain ⟨e1, e2, e3, e4⟩ := get_fields hg
  have HG := Lib.hid (fun (at_ n : Nat) (h1 : 1 ≤ n ∧ n ≤ 8) (h2 : at_ + n ≤ 16) (W : World) (hW : Below w.heap.size w W) => r_get ad 16 c at_ n g W h1 h2 (by decide) hg ((hr.below hW).more hW.size))
  clear hg hr
  go_enter Try.func38, Try.ntmps38
  go_wp2_with fail
  refine (HG.out 0 8 (by decide) (by decide) _ (by go_grown)).mono ?_
  rintro e W1 ⟨rfl, rfl⟩
  go_wp2_with fail
  refine (HG.out 8 4 (by decide) (by decide) _ (by go_grown)).mono ?_
  rintro e W1 ⟨rfl, rfl⟩
  go_wp2_with fail
  refine (HG.out 12 2 (by decide) (by decide) _ (by go_grown)).mono ?_
  rintro e W1 ⟨rfl, rfl⟩
  go_wp2_with fail
  refine (HG.out 14 2 (by decide) (by decide) _ (by go_grown)).mono ?_
  rintro e W1 ⟨rfl, rfl⟩
  go_wp2_with fail
  go_returns
  exact ⟨rfl, by go_grown⟩

theorem r_usedWord (i n : Int) (hi : 0 ≤ i) (hi2 : i ≤ 4294967295) (hn : 0 ≤ n) (hn2 : n ≤ 4294967295) (w : World) : Calls Try.prog 51 #[.agg #[.int .u32 i, .int .u32 n]] w (Gives w.heap.size w (.int .u64 (i + n * 4294967296))) := by
  unfold Gives
  go_enter Try.func51, Try.ntmps51
  go_wp2
  go_ret
  exact ⟨rfl, by go_grown⟩
theorem r_eventWord (i n : Int) (hi : 0 ≤ i) (hi2 : i ≤ 65535) (hn : 0 ≤ n) (hn2 : n ≤ 65535) (w : World) : Calls Try.prog 53 #[.agg #[.int .u16 i, .int .u16 n]] w (Gives w.heap.size w (.int .u64 (i + n * 65536))) := by
  unfold Gives
  go_enter Try.func53, Try.ntmps53
  go_wp2
  go_ret
  exact ⟨rfl, by go_grown⟩

theorem r_readUsed (v : Int) (h0 : 0 ≤ v) (h1 : v ≤ 18446744073709551615) (w : World) : Calls Try.prog 42 #[.int .u64 v] w (Gives w.heap.size w (.agg #[.int .u32 (v % 4294967296), .int .u32 (v / 4294967296)])) := by
  unfold Gives
  have h2 : 0 ≤ v / 4294967296 := by omega
  have h3 : v / 4294967296 ≤ 4294967295 := by omega
  have e1 : v.tmod 4294967296 = v % 4294967296 := Int.tmod_eq_emod_of_nonneg h0
  go_enter Try.func42, Try.ntmps42
  go_wp2
  go_returns
  exact ⟨rfl, by go_grown⟩
theorem r_readEvent (v : Int) (h0 : 0 ≤ v) (h1 : v ≤ 18446744073709551615) (w : World) : Calls Try.prog 43 #[.int .u64 v] w (Gives w.heap.size w (.agg #[.int .u16 (v % 65536), .int .u16 (v / 65536 % 65536)])) := by
  unfold Gives
  have h2 : 0 ≤ v / 65536 := by omega
  have e1 : v.tmod 65536 = v % 65536 := Int.tmod_eq_emod_of_nonneg h0
  have e2 : (v / 65536).tmod 65536 = v / 65536 % 65536 := Int.tmod_eq_emod_of_nonneg h2
  go_enter Try.func43, Try.ntmps43
  go_wp2
  go_returns
  exact ⟨rfl, by go_grown⟩

end Go.Proofs.Ytkncaafjkoeijaa.DesR1
