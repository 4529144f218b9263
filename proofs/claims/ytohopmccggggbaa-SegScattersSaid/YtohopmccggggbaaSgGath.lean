/- Segments in memory: Gather; what a law of one memory starts with. -/
import Derived.Test.YtohopmccggggbaaSgJoin
import Derived.Test.YtohopmccggggbaaSgArgs
import Derived.Test.YtohopmccggggbaaLe
namespace Go.Proofs.Ytohopmccggggbaa.SgGath
open Go.RowKit Rw Sg SgCheck SgTake SgTotal SgCut SgMath SgIn SgScat SgConcat SgJoin SgArgs GmFind GmWord GmRead GmWrite GmLoad Le
set_option linter.unusedVariables false
set_option linter.unusedSimpArgs false

theorem sm_part_false {l : List S3} (hb : Buf l) : sm (partL l false) = rd l := by
  unfold partL
  rw [if_neg (by decide), hb.cut0, sm_take _ _ hb.val hb.rd0, if_pos (by have := hb.rd_wr; have := hb.wr0; omega)]
theorem sm_part_true {l : List S3} (hb : Buf l) : sm (partL l true) = wr l := by
  have h := sm_split (rd l) l hb.val
  rw [sm_take _ _ hb.val hb.rd0, if_pos (by have := hb.rd_wr; have := hb.wr0; omega)] at h
  have h2 := hb.rd_wr
  unfold partL
  rw [if_pos rfl, hb.cut, take_all _ _ (hb.drop _ hb.rd0).val (by omega)]
  omega
theorem inL_ok {r : Rg} {k : Nat} {l : List S3} (h : inL r k l = 0) : checkL l = 0 ∧ allIn r k l = true := by
  unfold inL at h
  by_cases hc : checkL l = 0
  · rw [if_pos hc] at h
    refine ⟨hc, ?_⟩
    cases ha : allIn r k l with
    | true => rfl
    | false => rw [ha] at h; exact absurd h (by decide)
  · rw [if_neg hc] at h
    exact absurd h hc

set_option maxRecDepth 100000 in
set_option maxHeartbeats 4000000 in
theorem gather_bad {m k g1 b3 c1 c2 n3 c3 : Nat} {A2 : Option Addr} {r : Rg} (A : Option Addr) (c : Nat) (l : List S3) (w : World) (hM : Mm w m k g1 b3 A2 c1 c2 n3 c3 r) (hn : l.length ≤ 1000000) (hraw : ∀ x ∈ l, x.Raw) (h : Lst w w.heap.size A l) (hi : inL r k l ≠ 0) :
    Calls Try.prog 81 #[.pointer (some ⟨m, 0, none⟩), .slice A l.length c] w fun e w' => e = .returned (.tuple #[.slice none 0 0, .int .i64 (inL r k l)]) ∧ Below w.heap.size w w' := by
  have hb0 : Below w.heap.size w w := Below.refl _ _
  have h1 : (inL r k l == 0) = false := by simp [hi]
  have HM := Lib.hid hM
  have HL := Lib.hid h
  clear hM h hi
  go_enter Try.func81, Try.ntmps81
  go_wp2_with fail
  refine (in_any A c l _ HM.out hn hraw HL.out).mono ?_
  rintro eE W1 ⟨rfl, hg1⟩
  have hb1 : Below w.heap.size w W1 := (show Below w.heap.size w _ by go_grown).trans (hg1.mono (by first | omega | go_size))
  obtain ⟨hc1, hf1⟩ := bcell hg1
  have hs1 := hg1.size
  try simp only [World.size_alloc, World.size_setCell, World.size_drew] at hs1
  clear hg1 hc1 hf1
  go_wp2_with fail
  go_returns
  exact ⟨rfl, by go_grown⟩

set_option maxRecDepth 100000 in
set_option maxHeartbeats 8000000 in
theorem gather_ok {m k g1 b3 c1 c2 n3 c3 : Nat} {A2 : Option Addr} {r : Rg} (A : Option Addr) (c : Nat) (l : List S3) (g : Nat → Int) (w : World) (hM : Mm w m k g1 b3 A2 c1 c2 n3 c3 r)
    (hraw : ∀ x ∈ l, x.Raw) (h : Lst w w.heap.size A l) (hi : inL r k l = 0) (hby : By w b3 n3 g) (hs : rd l ≤ 1000000000) :
    Calls Try.prog 81 #[.pointer (some ⟨m, 0, none⟩), .slice A l.length c] w (JoinP (gaL r k g (partL l false)) w) := by
  have hb0 : Below w.heap.size w w := Below.refl _ _
  obtain ⟨hk1, hk2⟩ := inL_ok hi
  have hbuf := Buf.of hraw hk1
  have hst : ∀ i, i < k → 0 ≤ r.st i := fun i hi => (hM.fit i hi).1
  have hpb := part_buf false hbuf
  have hpi := part_in hst false hk2 hbuf
  have hsp := sm_part_false hbuf
  obtain ⟨P, hP⟩ : ∃ P, partL l false = P := ⟨_, rfl⟩
  rw [hP] at hpb hpi hsp ⊢
  obtain ⟨R, hR⟩ : ∃ R, rd l = R := ⟨_, rfl⟩
  rw [hR] at hs hsp
  have h1 : (inL r k l == 0) = true := by simp [hi]
  have hlen : l.length ≤ 64 := hbuf.len
  have hz : l.length ≤ 1000000 := by omega
  have HM := Lib.hid hM
  have HL := Lib.hid h
  have HE := Lib.hid (And.intro hP (And.intro hR hsp))
  have HB := Lib.hid (And.intro hbuf hpb)
  have HI := Lib.hid hpi
  have HBY := Lib.hid hby
  have hlt := hM.lt
  clear hM h hP hR hsp hbuf hpb hpi hst hk1 hk2 hraw hby
  unfold JoinP
  go_enter Try.func81, Try.ntmps81
  go_wp2_with fail
  (with_reducible refine (in_any A c l _ HM.out hz HB.out.1.raw HL.out).mono ?_)
  rintro e W1 ⟨rfl, hg1⟩
  have L1 := Lib.hid (lon HL.out hg1)
  have hs1 := hg1.size
  have hb1 := hg1
  clear hg1
  rw [hi]
  clear h1 hi
  go_wp2_with fail
  (with_reducible refine (total_any A c l _ (by omega) HB.out.1.raw L1.out).mono ?_)
  rw [HE.out.2.1]
  rintro e W2 ⟨rfl, hg2⟩
  have L2 := Lib.hid (lon L1.out hg2)
  have hs2 := hg2.size
  have hb2 : Below w.heap.size w W2 := hb1.trans (hg2.mono hs1)
  clear hg2
  go_wp2_with fail
  (with_reducible refine (part_any A c l false _ hz HB.out.1.raw L2.out).mono ?_)
  rw [HE.out.1]
  rintro e W3 ⟨A3, c3', rfl, h3, hc3, hg3⟩
  have hb3 : Below w.heap.size w W3 := hb2.trans (hg3.mono (by omega))
  have hs3 := hg3.size
  have L3 := Lib.hid h3
  have HM3 := Lib.hid (HM.out.below hb3)
  have HB3 := Lib.hid (show By W3 b3 n3 g from fun j hj => (hb3.cell (p := ⟨b3, j, none⟩) hlt).trans (HBY.out j hj))
  clear h3 hc3 hg3
  go_wp2_with fail
  have HJ := Lib.hid (join_any A3 c3' P g W3 HM3.out HB.out.2 HI.out L3.out HB3.out (by rw [HE.out.2.2]; exact hs))
  rw [HE.out.2.2] at HJ
  (with_reducible refine HJ.out.mono ?_)
  rintro e W4 ⟨A4, c4, rfl, h4, hg4⟩
  have hb4 : Below w.heap.size w W4 := hb3.trans (hg4.mono (by omega))
  have H4 := Lib.hid (own_base h4 (show w.heap.size ≤ W3.heap.size by omega))
  clear HJ h4 hg4
  go_wp2_with fail
  go_returns
  exact ⟨A4, c4, rfl, H4.out, hb4⟩

set_option maxRecDepth 100000 in
set_option maxHeartbeats 4000000 in
theorem own_any (A : Option Addr) (n c : Nat) (zs : List Int) (w : World) (hz : zs.length = n) (hn : n ≤ 1000000000) (h : IsRow w w.heap.size 1 A n (fun j => .int .u8 (zs.getD j 0))) (hA : A = none → n = 0 ∧ c = 0) :
    Calls Try.prog 29 #[.slice A n c] w (BytesP zs w) := by
  unfold BytesP
  rw [hz]
  obtain ⟨i0, hi, hz0, hz1, hz2⟩ := GmNew.u8info
  have HI0 := Lib.hid hi
  have HI1 := Lib.hid hz0
  have HI2 := Lib.hid hz1
  have HI3 := Lib.hid hz2
  have HO := Lib.hid (World.ownsRow_made (e := 5) (size := 1) w #[] 0 (Nat.le_refl _) (by unfold maxLen; omega) rfl)
  have HN := Lib.hid (show ∀ ad, A = some ad → ∀ j u, (u8s zs)[j]? = some u → (w.alloc (.cells #[] 5)).cell? (ad.add j) = some u from by
    intro ad e j u hu
    simp only [u8s, List.getElem?_map, Option.map_eq_some_iff] at hu
    obtain ⟨z, hz', rfl⟩ := hu
    obtain ⟨hj, rfl⟩ := List.getElem?_eq_some_iff.1 hz'
    obtain ⟨ad', e', hlt, hc⟩ := h (by omega)
    rw [e] at e'
    cases e'
    rw [World.cell?_alloc_lt _ _ _ (by rw [block_of_add]; exact hlt), hc j (by omega)]
    simp [List.getD_eq_getElem?_getD, hj])
  have HL := Lib.hid (show (u8s zs).length = n * 1 from by rw [u8s_length, hz, Nat.mul_one])
  have HA := Lib.hid hA
  clear hi hz0 hz1 hz2 h hA
  go_enter Try.func29, Try.ntmps29
  go_wp2_with (at_builtin; refine wpList_append_opt rfl _ _ 37 rfl w.heap.size 5 i0 (.int .u8 0) 1 1 Try.underlying37 HI0.out HI1.out HI2.out HI3.out rfl (by decide) (.slice (some ⟨w.heap.size, 0, none⟩) 0 0) 0 [] rfl HO.out A n c (u8s zs) rfl HA.out HL.out HN.out (u8s_one zs) (by unfold maxLen; omega) (by omega) (by rw [World.size_alloc]; omega) ?_)
  intro v' W hown' hg'
  have hown2 : W.ownsRow w.heap.size 5 1 v' n (u8s zs) := by simpa using hown'
  obtain ⟨A', c', rfl⟩ := GmNew.own_slice hown2
  have hb : Below w.heap.size w W := ((Below.refl w.heap.size w).alloc (Nat.le_refl _) _).grown hg' (by rw [World.size_alloc]; omega) (fun b e => by cases e; exact Nat.le_refl _)
  have HH := Lib.hid (And.intro hown2 hb)
  clear hown' hg' hown2 hb
  go_wp2_with fail
  go_ret
  exact ⟨A', c', rfl, HH.out.1, HH.out.2⟩

/-- Bytes as a string. -/
def strL (ns : List Int) : ByteArray := ⟨(ns.map fun z => UInt8.ofNat z.toNat).toArray⟩
theorem strL_append (a b : List Int) : strL a ++ strL b = strL (a ++ b) := by
  apply ByteArray.ext
  simp [strL, ByteArray.data_append]
theorem strL_size (ns : List Int) : (strL ns).size = ns.length := by simp [strL, ByteArray.size]
def IsBytes (ns : List Int) : Prop := ∀ z ∈ ns, 0 ≤ z ∧ z ≤ 255
set_option maxRecDepth 100000 in
theorem run_strL {src dst e : TypeId} (hs : Try.prog.underlying src = some (.slice e)) (he : Try.prog.underlying e = some (.int .u8)) (hd : Try.prog.underlying dst = some .string) {A : Option Addr} {n c B : Nat} {ns : List Int} {W : World} (hn : ns.length = n) (hg : IsBytes ns) (hr : IsRow W B 1 A n (fun j => .int .u8 (ns.getD j 0))) :
    (convert src dst (.slice A n c)).run Try.prog W = .ok (.string (strL ns)) W := by
  cases A with
  | none =>
    have h0 : n = 0 := by
      rcases Nat.eq_zero_or_pos n with h | h
      · exact h
      · obtain ⟨ad, e, _⟩ := hr h; cases e
    subst h0
    have : ns = [] := List.eq_nil_of_length_eq_zero hn
    subst this
    exact run_convert_bytes_nil (P := Try.prog) W src e hs he 0 c dst hd
  | some a =>
    have := run_convert_bytes_back (P := Try.prog) W src dst e a c (ns.map fun z => UInt8.ofNat z.toNat) hs he hd (fun j hj => by
      have hj' : j < ns.length := by simpa using hj
      obtain ⟨ad, e, _, hc⟩ := hr (by omega)
      cases e
      have hb := hg _ (List.getElem_mem hj')
      rw [hc j (by omega)]
      simp only [List.getElem_map, List.getD_eq_getElem?_getD, List.getElem?_eq_getElem hj', Option.getD_some]
      congr 2
      rw [UInt8.toNat_ofNat']; omega)
    simpa [strL, hn] using this
theorem own_row {w : World} {base : Nat} {A : Option Addr} {n c : Nat} {ns : List Int} (h : w.ownsRow base 5 1 (.slice A n c) n (u8s ns)) : ns.length = n ∧ IsRow w w.heap.size 1 A n (fun j => .int .u8 (ns.getD j 0)) := by
  have hl : ns.length = n := by have := h.1; rw [u8s_length] at this; omega
  refine ⟨hl, (IsRow.of_own h).congr fun j hj => ?_⟩
  have hj' : j < ns.length := by omega
  simp [u8s, List.getD_eq_getElem?_getD, hj']

end Go.Proofs.Ytohopmccggggbaa.SgGath
