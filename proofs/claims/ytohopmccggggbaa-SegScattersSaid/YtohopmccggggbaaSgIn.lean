/- Segments in memory: In. -/
import Derived.Test.YtohopmccggggbaaSgCut
import Derived.Test.YtohopmccggggbaaGmOne
import Derived.Test.YtohopmccggggbaaGmWrite
namespace Go.Proofs.Ytohopmccggggbaa.SgIn
open Go.RowKit Rw Sg SgCheck SgTotal SgCut GmFind GmWord GmRead
set_option linter.unusedVariables false
set_option linter.unusedSimpArgs false

/-- A memory where it lies; its bytes lie apart from all else that is its own. -/
structure Mm (w : World) (m k g1 b3 : Nat) (A2 : Option Addr) (c1 c2 n3 c3 : Nat) (r : Rg) : Prop where
  k1 : k ≤ 1000000
  rin : r.In k
  fit : r.Fits k n3
  n3c : n3 ≤ c3
  n3b : n3 ≤ 1000000000
  mem : MemAt w m k g1 A2 (some ⟨b3, 0, none⟩) c1 c2 n3 c3 r
  mb : m ≠ b3
  gb : g1 ≠ b3
  ab : ∀ a, A2 = some a → a.block ≠ b3
  lt : b3 < w.heap.size
section
variable {w w' : World} {m k g1 b3 c1 c2 n3 c3 : Nat} {A2 : Option Addr} {r : Rg}
theorem Mm.below (h : Mm w m k g1 b3 A2 c1 c2 n3 c3 r) (hb : Below w.heap.size w w') : Mm w' m k g1 b3 A2 c1 c2 n3 c3 r :=
  ⟨h.k1, h.rin, h.fit, h.n3c, h.n3b, h.mem.below hb, h.mb, h.gb, h.ab, Nat.lt_of_lt_of_le h.lt hb.size⟩
theorem Mm.only (h : Mm w m k g1 b3 A2 c1 c2 n3 c3 r) (hg : w.grownBy w' (some b3)) : Mm w' m k g1 b3 A2 c1 c2 n3 c3 r := by
  have hm := hg.block m h.mem.lt (by intro e; cases e; exact h.mb rfl)
  have hg1 := hg.block g1 h.mem.lt1 (by intro e; cases e; exact h.gb rfl)
  refine ⟨h.k1, h.rin, h.fit, h.n3c, h.n3b, ?_, h.mb, h.gb, h.ab, Nat.lt_of_lt_of_le h.lt hg.size⟩
  refine ⟨(World.cell?_of_block (a := ⟨m, 0, none⟩) hm).trans h.mem.self, (World.cell?_of_block (a := ⟨m, 1, none⟩) hm).trans h.mem.regs, (World.cell?_of_block (a := ⟨m, 2, none⟩) hm).trans h.mem.sts, (World.cell?_of_block (a := ⟨m, 3, none⟩) hm).trans h.mem.bys, Nat.lt_of_lt_of_le h.mem.lt hg.size, Nat.lt_of_lt_of_le h.mem.lt1 hg.size,
    fun j hj => (World.cell?_of_block (a := ⟨g1, j, none⟩) hg1).trans (h.mem.row1 j hj), fun b o _ he => ?_, fun hk => ?_⟩
  · rcases he with rfl | rfl
    · exact (World.frozen?_of_block (a := ⟨b, o, none⟩) hm).trans (h.mem.fz b o h.mem.lt (.inl rfl))
    · exact (World.frozen?_of_block (a := ⟨b, o, none⟩) hg1).trans (h.mem.fz b o h.mem.lt1 (.inr rfl))
  · obtain ⟨ad, e, hlt, hc⟩ := h.mem.row2 hk
    have hne := h.ab ad e
    exact ⟨ad, e, Nat.lt_of_lt_of_le hlt hg.size, fun j hj => (World.cell?_of_block (a := ad.add j) (by rw [block_of_add]; exact hg.block _ hlt (by intro e'; cases e'; exact hne rfl))).trans (hc j hj)⟩
end

theorem lon {w w' : World} {A : Option Addr} {l : List S3} (h : Lst w w.heap.size A l) (hb : Below w.heap.size w w') : Lst w' w'.heap.size A l := (IsRow.below h hb).more hb.size

/-- Whether each segment is in memory. -/
def allIn (r : Rg) (k : Nat) (l : List S3) : Bool := l.all fun x => (place r k x.a x.n).isSome
def inL (r : Rg) (k : Nat) (l : List S3) : Int := if checkL l = 0 then (if allIn r k l = true then 0 else 5) else checkL l
theorem allIn_cons (r : Rg) (k : Nat) (x : S3) (l : List S3) : allIn r k (x :: l) = ((place r k x.a x.n).isSome && allIn r k l) := rfl

set_option maxRecDepth 100000 in
set_option maxHeartbeats 4000000 in
theorem in_any {m k g1 b3 c1 c2 n3 c3 : Nat} {A2 : Option Addr} {r : Rg} (A : Option Addr) (c : Nat) (l : List S3) (w : World) (hM : Mm w m k g1 b3 A2 c1 c2 n3 c3 r) (hn : l.length ≤ 1000000) (hraw : ∀ x ∈ l, x.Raw) (h : Lst w w.heap.size A l) :
    Calls Try.prog 84 #[.pointer (some ⟨m, 0, none⟩), .slice A l.length c] w fun e w' => e = .returned (.int .i64 (inL r k l)) ∧ Below w.heap.size w w' := by
  have hb0 : Below w.heap.size w w := Below.refl _ _
  have hself := hM.mem.self
  by_cases hk : checkL l = 0
  case neg =>
    have e1 : inL r k l = checkL l := by unfold inL; rw [if_neg hk]
    rw [e1]
    have h1 : (checkL l == 0) = false := by simp [hk]
    have HL := Lib.hid h
    have HW := Lib.hid hraw
    clear h hraw hk hM
    go_enter Try.func84, Try.ntmps84
    go_wp2_with fail
    refine (read_zero m 0 _ hself).mono ?_
    rintro eE W1 ⟨rfl, hg1⟩
    have hb1 : Below w.heap.size w W1 := (show Below w.heap.size w _ by go_grown).trans (hg1.mono (by first | omega | go_size))
    obtain ⟨hc1, hf1⟩ := bcell hg1
    have hs1 := hg1.size
    try simp only [World.size_alloc, World.size_setCell, World.size_drew] at hs1
    clear hg1 hc1 hf1
    go_wp2_with fail
    refine (check_any A c l _ (by omega) HW.out (lon HL.out hb1)).mono ?_
    rintro eE W2 ⟨rfl, hg2⟩
    have hb2 : Below w.heap.size w W2 := (show Below w.heap.size w _ by go_grown).trans (hg2.mono (by first | omega | go_size))
    obtain ⟨hc2, hf2⟩ := bcell hg2
    have hs2 := hg2.size
    try simp only [World.size_alloc, World.size_setCell, World.size_drew] at hs2
    clear hg2 hc2 hf2
    go_wp2_with fail
    go_ret
    exact ⟨rfl, by go_grown⟩
  obtain ⟨R, hR⟩ : ∃ R, allIn r k l = R := ⟨_, rfl⟩
  have e1 : inL r k l = if R = true then 0 else 5 := by unfold inL; rw [if_pos hk, hR]
  rw [e1]
  have h1 : (checkL l == 0) = true := by simp [hk]
  have HL := Lib.hid h
  have HW := Lib.hid hraw
  have HR := Lib.hid hR
  have HM := Lib.hid hM
  obtain ⟨CK, hCK⟩ : ∃ CK, checkL l = CK := ⟨_, rfl⟩
  clear h hraw hM e1 hR
  go_enter Try.func84, Try.ntmps84
  go_wp2_with fail
  refine (read_zero m 0 _ hself).mono ?_
  rintro eE W1 ⟨rfl, hg1⟩
  have hb1 : Below w.heap.size w W1 := (show Below w.heap.size w _ by go_grown).trans (hg1.mono (by first | omega | go_size))
  obtain ⟨hc1, hf1⟩ := bcell hg1
  have hs1 := hg1.size
  try simp only [World.size_alloc, World.size_setCell, World.size_drew] at hs1
  clear hg1 hc1 hf1
  go_wp2_with fail
  (with_reducible refine (check_any A c l _ (by omega) HW.out (lon HL.out hb1)).mono ?_)
  rintro e W2 ⟨rfl, hg2⟩
  have hb2 : Below w.heap.size w W2 := (show Below w.heap.size w _ by go_grown).trans (hg2.mono (by first | omega | go_size))
  obtain ⟨hc2, hf2⟩ := bcell hg2
  have hs2 := hg2.size
  try simp only [World.size_alloc, World.size_setCell, World.size_drew] at hs2
  clear hg2 hc2 hf2
  go_wp2_with fail
  obtain ⟨N, hN⟩ : ∃ N, l.length = N := ⟨_, rfl⟩
  have HN := Lib.hid hN
  rw [hN] at hn
  simp only [hN]
  clear hN h1 hk hCK hself
  go_loopw [25] (fun i wr => ∃ (j : Nat), j ≤ N ∧ i = .int .i64 j ∧ allIn r k (l.drop j) = R ∧ Below w.heap.size w wr) (fun i wr => N - (intOf i).toNat)
  case atStart => exact ⟨0, by omega, rfl, by simpa using HR.out, by go_grown⟩
  case round =>
    obtain ⟨j, hjn, rfl, hp, hb⟩ := hrel
    by_cases hlt : j < N
    · obtain ⟨ad, rfl, had, d0, d1, d2⟩ := el (k := j) (lon HL.out hb) (by rw [HN.out]; exact hlt)
      rw [drop_at l (by rw [HN.out]; exact hlt), allIn_cons] at hp
      obtain ⟨x, hx⟩ : ∃ x, at_ l j = x := ⟨_, rfl⟩
      rw [hx] at d0 d1 d2 hp
      obtain ⟨r0, r1, r2, r3⟩ : x.Raw := hx ▸ HW.out _ (at_mem l (by rw [HN.out]; exact hlt))
      obtain ⟨a, n, b⟩ := x
      simp only at d0 d1 d2 r0 r1 r2 r3 hp
      clear hx
      have hsw := hb.size
      have HX := Lib.hid hp
      clear hp
      go_wp2_with fail
      have HM2 := Lib.hid ((HM.out.below hb).below ((Below.refl wr.heap.size wr).alloc (Nat.le_refl _) (.cells #[.int .u64 a, .int .u32 n, .bool b] 102)))
      (with_reducible refine (has_any k m g1 b3 a n r _ HM2.out.k1 HM2.out.rin HM2.out.fit HM2.out.n3c HM2.out.n3b HM2.out.mem r0 r1 r2 (by omega)).mono ?_)
      rintro e W3 ⟨rfl, hg3⟩
      have hb3 : Below w.heap.size w W3 := (hb.alloc (by omega) (.cells #[.int .u64 a, .int .u32 n, .bool b] 102)).trans (hg3.mono (by simp; omega))
      cases ho : (place r k a n).isSome with
      | true =>
        have hd : allIn r k (l.drop (j + 1)) = R := by have := HX.out; rw [ho] at this; simpa using this
        have HD := Lib.hid hd
        clear hd ho hg3
        go_wp2_with fail
        go_roundw
        case rel => exact ⟨j + 1, by omega, by go_num, HD.out, hb3⟩
        case measure => simp [intOf]; omega
      | false =>
        obtain rfl : R = false := by have := HX.out; rw [ho] at this; simpa using this.symm
        clear ho hg3
        go_wp2_with fail
        go_ret
        exact ⟨rfl, hb3⟩
    · obtain rfl : j = N := by omega
      rw [List.drop_eq_nil_of_le (by rw [HN.out]; omega)] at hp
      obtain rfl : R = true := hp.symm
      clear hp
      go_wp2_with fail
      go_ret
      exact ⟨rfl, hb⟩

end Go.Proofs.Ytohopmccggggbaa.SgIn
