
/- Free lists: a bitmap's has and add; read. -/
import Derived.Test.YtkejcdephnkkgaaFrRead
namespace Go.Proofs.Ytkejcdephnkkgaa.FrAdd
open Go.RowKit Rw Fe Fr FrRead
set_option linter.unusedVariables false
set_option linter.unusedSimpArgs false

abbrev Bits (w : World) (b m : Nat) (vis : List Int) : Prop := BitsAt w 25 b m vis

set_option maxRecDepth 100000 in
theorem has_is (b m x : Nat) (vis : List Int) (r : Bool) (w : World) (h : Bits w b m vis) (hx : x < 64 * m) (hm : m ≤ 1000000) (hr : decide ((x : Int) ∈ vis) = r) :
    Calls Try.prog 64 #[.slice (some ⟨b, 0, none⟩) m m, num x] w fun e w' => e = .returned (.bool r) ∧ Below w.heap.size w w' := by
  obtain ⟨W, h1, h2⟩ := h
  have h3 := (h2 x hx).trans hr
  have hq : x / 64 < m := by omega
  have c0 := h1.cell hq
  have e0 : ((x : Nat) : Int).tdiv 64 = ((x / 64 : Nat) : Int) := by rw [Int.tdiv_eq_ediv_of_nonneg (by omega)]; rfl
  have e1 : ((x : Nat) : Int).tmod 64 = ((x % 64 : Nat) : Int) := by rw [Int.tmod_eq_emod_of_nonneg (by omega)]; rfl
  obtain ⟨q, hqq⟩ : ∃ q, x / 64 = q := ⟨_, rfl⟩
  obtain ⟨p, hpp⟩ : ∃ p, x % 64 = p := ⟨_, rfl⟩
  rw [hqq] at h3 hq c0 e0
  rw [hpp] at h3 e1
  have hp : p < 64 := by omega
  have e2 := shl_one hp
  have e3 := b_and (W q) (one p)
  have e4 : (nu (W q &&& one p) != 0) = r := by rw [bne, nu_beq0, and_one0 _ _ hp, Bool.not_not, h3]
  have e5 : ((p : Nat) : Int).toNat = p := rfl
  clear h1 h2 h3 hr hqq hpp hx
  go_enter Try.func64, Try.ntmps64
  go_wp2_with fail
  go_region
  go_wp2_with fail
  go_ret
  exact ⟨rfl, by go_grown⟩

def AddP (w : World) (b m : Nat) (vis l : List Int) (e : Ending) (w' : World) : Prop :=
  ∃ r : Bool, e = .returned (.bool r) ∧ (r = true → (vis ++ l).Nodup ∧ Bits w' b m (vis ++ l)) ∧ (r = false → ¬ (vis ++ l).Nodup) ∧ w.grownBy w' (some b)

set_option maxRecDepth 100000 in
set_option maxHeartbeats 2000000 in
theorem add_any (b m : Nat) (A : Option Addr) (n c : Nat) (vis l : List Int) (w : World) (h : Bits w b m vis) (hm : m ≤ 1000000) (hs : Sl w b A n c l) (hin : ∀ x ∈ l, 0 ≤ x ∧ x < 64 * m) (hv : vis.Nodup) :
    Calls Try.prog 62 #[.slice (some ⟨b, 0, none⟩) m m, .slice A n c] w (AddP w b m vis l) := by
  have hmax : n ≤ 9223372036854775807 := by have h1 := hs.le; have h2 := hs.max; unfold maxLen at h2; omega
  have hbw := h.lt
  have HB := Lib.hid h
  have HS := Lib.hid hs
  have HIN := Lib.hid hin
  have HV := Lib.hid hv
  clear h hs hin hv
  unfold AddP
  go_enter Try.func62, Try.ntmps62
  go_wp2_with fail
  go_loopw [9] (fun i wr => ∃ k : Nat, k ≤ n ∧ i = num k ∧ Hid ((vis ++ l.take k).Nodup) ∧ Hid (Bits wr b m (vis ++ l.take k)) ∧ w.grownBy wr (some b)) (fun i wr => n - (intOf i).toNat)
  case atStart => exact ⟨0, by omega, rfl, Lib.hid (by simpa using HV.out), Lib.hid (by simpa using HB.out), World.grownBy.refl _ _⟩
  case round =>
    obtain ⟨k, hk, rfl, hnd, hbits, hg⟩ := hrel
    by_cases hlt : k < n
    · obtain ⟨ad, rfl, had, c0⟩ := HS.out.el hlt
      have hgs := hg.size
      have c1 : wr.cell? (ad.add k) = some (num (l.getD k 0)) := (World.cell?_of_block (hg.block _ (by rw [block_of_add]; omega) (by rw [block_of_add]; intro e; injection e with e; omega))).trans c0
      have hmem : l.getD k 0 ∈ l := getD_mem (by rw [HS.out.len]; exact hlt)
      obtain ⟨x0, xhi⟩ := HIN.out _ hmem
      have HT := Lib.hid (take_succ (l := l) (k := k) (by rw [HS.out.len]; exact hlt))
      have HD := Lib.hid (drop_cons (l := l) (k := k) (by rw [HS.out.len]; exact hlt))
      obtain ⟨xi, hxi⟩ : ∃ xi, l.getD k 0 = xi := ⟨_, rfl⟩
      rw [hxi] at c1 x0 xhi HT HD
      obtain ⟨x, rfl⟩ := Int.eq_ofNat_of_zero_le x0
      obtain ⟨r, hr⟩ : ∃ r, decide ((x : Int) ∈ vis ++ l.take k) = r := ⟨_, rfl⟩
      have HR := Lib.hid hr
      have hx64 : x < 64 * m := by omega
      clear c0 hmem hxi hr x0 xhi
      go_wp2_with fail
      refine (has_is b m x _ r _ hbits.out hx64 hm HR.out).mono ?_
      rintro e W1 ⟨rfl, hb1⟩
      have hg1 : w.grownBy W1 (some b) := only_trans hg (only_of_below hb1 _)
      have hB1 := Lib.hid (hbits.out.below hb1)
      clear hbits hg hb1 c1
      cases r with
      | true =>
        have HNO := Lib.hid (show ¬ (vis ++ l).Nodup from fun hno => by
          rw [← List.take_append_drop k l, HD.out, ← List.append_assoc] at hno
          have hm1 : (x : Int) ∈ vis ++ l.take k := by simpa using HR.out
          exact (List.nodup_append.1 hno).2.2 _ hm1 _ (by simp) rfl)
        go_wp2_with fail
        go_ret
        exact ⟨false, rfl, (by intro h; cases h), fun _ => HNO.out, hg1⟩
      | false =>
        have hnm : ¬ (x : Int) ∈ vis ++ l.take k := by simpa using HR.out
        have HND := Lib.hid (show (vis ++ l.take (k + 1)).Nodup from by
          rw [HT.out, ← List.append_assoc, List.nodup_append]
          exact ⟨hnd.out, by simp, fun a ha b hb e => by simp at hb; subst hb; subst e; exact hnm ha⟩)
        obtain ⟨W, h1, h2⟩ := hB1.out
        have hq : x / 64 < m := by omega
        have HB2 := Lib.hid (And.intro h1 (bits_step (x := x) h2))
        have c0 := h1.cell hq
        have z0 := h1.frozen (x / 64)
        have e0 : ((x : Nat) : Int).tdiv 64 = ((x / 64 : Nat) : Int) := by rw [Int.tdiv_eq_ediv_of_nonneg (by omega)]; rfl
        have e1 : ((x : Nat) : Int).tmod 64 = ((x % 64 : Nat) : Int) := by rw [Int.tmod_eq_emod_of_nonneg (by omega)]; rfl
        obtain ⟨q, hqq⟩ : ∃ q, x / 64 = q := ⟨_, rfl⟩
        obtain ⟨p, hpp⟩ : ∃ p, x % 64 = p := ⟨_, rfl⟩
        rw [hqq] at hq c0 z0 e0
        rw [hpp] at e1
        have hp : p < 64 := by omega
        have e2 := shl_one hp
        have e3 := b_or (W q) (one p)
        have e5 : ((p : Nat) : Int).toNat = p := rfl
        have HQ := Lib.hid (And.intro hqq hpp)
        have hlt1 := h1.lt
        have hg1s := hg1.size
        clear h1 h2 hnm hB1 hqq hpp hx64 HR
        go_wp2_with fail
        go_region
        go_wp2_with fail
        go_roundw
        case rel => exact ⟨k + 1, by omega, by go_num, HND, Lib.hid ⟨_, ((HB2.out.1.set q (wd (W q ||| one p))).drew).congr (g := fun j => wd (if j = x / 64 then W (x / 64) ||| one (x % 64) else W j)) (fun j hj => by
          rw [HQ.out.1, HQ.out.2]
          by_cases e : j = q
          · subst e; simp
          · simp [e]), by rw [HT.out, ← List.append_assoc]; exact HB2.out.2⟩, only_drew (only_setCell hg1 (.inl rfl) _)⟩
        case measure => simp [intOf]; omega
    · obtain rfl : k = n := by omega
      have e0 : l.take k = l := List.take_of_length_le (by rw [HS.out.len]; exact Nat.le_refl _)
      rw [e0] at hnd hbits
      go_wp2_with fail
      go_ret
      exact ⟨true, rfl, fun _ => ⟨hnd.out, hbits.out⟩, (by intro h; cases h), hg⟩

end Go.Proofs.Ytkejcdephnkkgaa.FrAdd
