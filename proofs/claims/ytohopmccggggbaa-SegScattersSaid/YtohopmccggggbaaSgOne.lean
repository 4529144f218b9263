/- One memory of one region: what it holds; takes and drops of bytes. -/
import Derived.Test.YtohopmccggggbaaSgGath
namespace Go.Proofs.Ytohopmccggggbaa.SgOne
open Go.ChangeShapes Go.WideShapes Go.ChangeAt Go.RowKit Rw Sg SgCheck SgTake SgTotal SgCut SgMath SgIn SgScat SgConcat SgJoin SgArgs SgGath GmFind GmWord GmRead GmWrite GmLoad
set_option linter.unusedVariables false
set_option linter.unusedSimpArgs false

theorem ga_split {r : Rg} {k : Nat} (hf : ∀ i, i < k → 0 ≤ r.st i) (g : Nat → Int) (n : Int) (l : List S3) (n0 : 0 ≤ n) (hv : ∀ x ∈ l, x.Val) (hi : allIn r k l = true) : gaL r k g (takeL n l) ++ gaL r k g (dropL n l) = gaL r k g l := by
  induction l generalizing n with
  | nil => rfl
  | cons y t ih =>
    rw [allIn_cons, Bool.and_eq_true] at hi
    rw [takeL_cons, dropL_cons]
    by_cases h1 : n ≤ 0
    · rw [if_pos h1, if_pos h1]; rfl
    · rw [if_neg h1, if_neg h1]
      by_cases h2 : n < y.n
      · rw [if_pos h2, if_pos h2, gaL_cons, gaL_cons, gaL_cons]
        show (segBytes r k g ⟨y.a, n, y.w⟩ ++ []) ++ (segBytes r k g ⟨y.a + n, y.n - n, y.w⟩ ++ _) = _
        rw [List.append_nil, ← List.append_assoc]
        congr 1
        obtain ⟨o, ho⟩ := Option.isSome_iff_exists.1 hi.1
        have e1 := place_sub (a' := y.a) (n' := n) hf ho (by omega) (by omega) (by omega)
        have e2 := place_sub (a' := y.a + n) (n' := y.n - n) hf ho (by omega) (by omega) (by omega)
        unfold segBytes
        rw [ho, e1, e2]
        simp only [Option.getD_some]
        rw [show y.a - y.a = 0 from by omega, show y.a + n - y.a = n from by omega]
        have e3 : y.n.toNat = n.toNat + (y.n - n).toNat := by omega
        rw [e3, List.range_add, List.map_append, List.map_map]
        congr 1
        refine List.map_congr_left fun j _ => ?_
        simp only [Function.comp_apply]
        congr 1
        omega
      · rw [if_neg h2, if_neg h2, gaL_cons, gaL_cons, List.append_assoc, ih _ (by omega) (fun x hx => hv x (by simp [hx])) hi.2]

theorem ga_bytes (r : Rg) (k : Nat) (g : Nat → Int) (l : List S3) (h : ∀ j, 0 ≤ g j ∧ g j ≤ 255) : IsBytes (gaL r k g l) := by
  intro z hz
  unfold gaL gparts at hz
  obtain ⟨ns, h1, h2⟩ := List.mem_flatten.1 hz
  obtain ⟨x, _, rfl⟩ := List.mem_map.1 h1
  unfold segBytes at h2
  obtain ⟨j, _, rfl⟩ := List.mem_map.1 h2
  exact h _
/-- Only such as are read. -/
def Reads (l : List S3) : Prop := ∀ x ∈ l, x.w = false
theorem reads_part {l : List S3} (hv : ∀ x ∈ l, x.Val) (ho : ord false l) : Reads (takeL (tot false l) l) := by
  induction l with
  | nil => intro x hx; cases hx
  | cons y t ih =>
    have ht := fun x hx => hv x (List.mem_cons_of_mem y hx)
    have hy := (hv y (by simp)).n0
    cases hw : y.w with
    | true =>
      have e : tot false (y :: t) = 0 := by
        rw [tot_cons, hw, if_neg (by decide), tot_true_ord (by have := ho.2; rwa [hw] at this)]
        rfl
      rw [e, takeL_zero]
      intro x hx; cases hx
    | false =>
      have t0 : 0 ≤ tot false t := tot_nonneg fun x hx => ⟨(ht x hx).a0, by have := ht x hx; have := this.e1; have := (ht x hx).n0; omega, by have := (ht x hx).n0; omega, (ht x hx).n1⟩
      have e : tot false (y :: t) = y.n + tot false t := by rw [tot_cons, hw, if_pos rfl]
      rw [e, takeL_cons, if_neg (by omega), if_neg (by omega), show y.n + tot false t - y.n = tot false t from by omega]
      intro x hx
      rcases List.mem_cons.1 hx with rfl | hx
      · exact hw
      · exact ih ht (by have := ho.2; rwa [hw] at this) x hx
theorem reads_take {l : List S3} (n : Int) (h : Reads l) : Reads (takeL n l) := by
  induction l generalizing n with
  | nil => exact h
  | cons y t ih =>
    rw [takeL_cons]
    split
    · intro x hx; cases hx
    · split
      · intro x hx
        obtain rfl := List.mem_singleton.1 hx
        exact h y (by simp)
      · intro x hx
        rcases List.mem_cons.1 hx with rfl | hx
        · exact h x (by simp)
        · exact ih _ (fun x hx => h x (by simp [hx])) x hx
theorem reads_drop {l : List S3} (n : Int) (h : Reads l) : Reads (dropL n l) := by
  induction l generalizing n with
  | nil => exact h
  | cons y t ih =>
    rw [dropL_cons]
    split
    · exact h
    · split
      · intro x hx
        rcases List.mem_cons.1 hx with rfl | hx
        · exact h y (by simp)
        · exact h x (by simp [hx])
      · exact ih _ (fun x hx => h x (by simp [hx]))
theorem reads_tot {l : List S3} (h : Reads l) : tot true l = 0 ∧ tot false l = sm l := by
  have h1 : tot true l = 0 := by
    induction l with
    | nil => rfl
    | cons y t ih =>
      rw [tot_cons, h y (by simp), if_neg (by decide), ih (fun x hx => h x (by simp [hx]))]
      rfl
  exact ⟨h1, by unfold sm; omega⟩
theorem reads_of {l : List S3} (hb : Buf l) : Reads (partL l false) := by
  unfold partL
  rw [if_neg (by decide), hb.cut0, hb.rd_eq]
  exact reads_part hb.val hb.ord
theorem part_reads {l : List S3} (hb : Buf l) (h : Reads l) : partL l false = l := by
  unfold partL
  rw [if_neg (by decide), hb.cut0, hb.rd_eq, (reads_tot h).2]
  exact take_all _ _ hb.val (Int.le_refl _)

theorem inL_of {r : Rg} {k : Nat} {l : List S3} (hb : Buf l) (h : allIn r k l = true) : inL r k l = 0 := by unfold inL; rw [if_pos hb.check, if_pos h]
theorem inL_not {r : Rg} {k : Nat} {l : List S3} (hb : checkL l = 0) (h : allIn r k l = false) : inL r k l = 5 := by unfold inL; rw [if_pos hb, h]; rfl

theorem sm_small {n : Nat} {l : List S3} (h : allIn (GmOne.oneM 0 n) 1 l = true) : sm l ≤ l.length * n := by
  induction l with
  | nil =>
    have e : sm ([] : List S3) = 0 := rfl
    rw [e]
    simp
  | cons y t ih =>
    rw [allIn_cons, Bool.and_eq_true] at h
    have := ih h.2
    have hp := h.1
    rw [GmOne.place_one] at hp
    by_cases hc : 0 ≤ y.a ∧ 1 ≤ y.n ∧ y.a + y.n ≤ 0 + n
    · rw [sm_cons, List.length_cons]
      have e : ((t.length + 1 : Nat) : Int) * (n : Int) = (t.length : Int) * n + n := by
        rw [Int.natCast_succ, Int.add_mul, Int.one_mul]
      rw [e]
      omega
    · rw [if_neg hc] at hp
      cases hp

/-- A new memory of so many bytes, at address 0. -/
def New1P (n : Nat) (w : World) (e : Ending) (w' : World) : Prop := ∃ (m g1 b3 c2 c3 : Nat) (A2 : Option Addr), e = .returned (.tuple #[.pointer (some ⟨m, 0, none⟩), .int .i64 0]) ∧ Mm w' m 1 g1 b3 A2 1 c2 n c3 (GmOne.oneM 0 n) ∧ w'.rowIs b3 5 c3 (fun _ => .int .u8 0) ∧ w.heap.size ≤ b3 ∧ Below w.heap.size w w'
theorem new1 (n blk c : Nat) (w : World) (hn : 1 ≤ n) (hn2 : n ≤ 1048576) (h0 : w.cell? ⟨blk, 0, none⟩ = some (.int .u64 0)) (h1 : w.cell? ⟨blk, 1, none⟩ = some (.int .u64 n)) (hb : blk < w.heap.size) :
    Calls Try.prog 17 #[.slice (some ⟨blk, 0, none⟩) 1 c] w (New1P n w) := by
  refine (GmOne.new_one 0 n blk c w (by decide) (by omega) (by omega) (by omega) h0 h1 hb).mono ?_
  rintro e W ⟨m, g1, b3, c2, n3, c3, A2, he, hM, hn3, hc3, hrow, hm, hg, hgm, hmb, hA, hg'⟩
  obtain rfl : n3 = n := by omega
  exact ⟨m, g1, b3, c2, c3, A2, he, ⟨by decide, GmOne.one_in (by decide) (by omega) (by omega), GmOne.one_fits (by omega) rfl, hc3, by omega, hM, by omega, by omega, fun a e => by have := hA a e; omega, hrow.lt⟩, hrow, by omega, hg'⟩

set_option maxRecDepth 100000 in
theorem write_one {m g1 b3 c1 c2 n c3 : Nat} {A2 : Option Addr} (AB : Option Addr) (N cb : Nat) (t : TypeId) (F : Nat → Value) (gb : Nat → Int) (w : World) (hM : Mm w m 1 g1 b3 A2 c1 c2 n c3 (GmOne.oneM 0 n)) (hrow : w.rowIs b3 t c3 F)
    (hsrc : IsRow w w.heap.size 1 AB N (fun j => .int .u8 (gb j))) (hN : N ≤ n) :
    Calls Try.prog 28 #[.pointer (some ⟨m, 0, none⟩), .int .u64 0, .slice AB N cb] w fun e w' => e = .returned (.int .i64 0) ∧ w'.rowIs b3 t c3 (wrF F 0 N gb) ∧ w.grownBy w' (some b3) := by
  rcases Nat.eq_zero_or_pos N with rfl | h1
  · refine (write_zero m cb AB 0 w hM.mem.self).mono ?_
    rintro e W ⟨rfl, hg⟩
    refine ⟨rfl, (hrow.of_block (hg.block b3 hrow.lt)).congr fun j _ => ?_, only_of_below hg _⟩
    unfold wrF
    rw [if_neg (by omega)]
  · have hn := hM.n3b
    exact write_yes 1 m g1 b3 N cb c3 0 t AB 0 (GmOne.oneM 0 n) F gb w hM.k1 hM.rin hM.fit hM.n3c hM.n3b hM.mem hM.n3c hrow hsrc (by decide) (by decide) h1 (by omega) (by rw [GmOne.place_one, if_pos ⟨by omega, by omega, by omega⟩]; rfl)

theorem wr0_eq (zs : List Int) (n : Nat) (h : zs.length = n) (j : Nat) : wrF (fun _ => .int .u8 0) 0 n (fun j => zs.getD j 0) j = .int .u8 (zs.getD j 0) := by
  unfold wrF
  by_cases hj : j < n
  · rw [if_pos (by omega), Nat.sub_zero]
  · rw [if_neg (by omega)]
    show (Value.int .u8 0) = .int .u8 (zs.getD j 0)
    rw [List.getD_eq_getElem?_getD, List.getElem?_eq_none (by omega)]
    rfl
theorem by_of {w : World} {b n M : Nat} {t : TypeId} {g : Nat → Int} (h : w.rowIs b t M (fun j => .int .u8 (g j))) (hn : n ≤ M) : By w b n g := fun j hj => h.cell (by omega)
theorem by_row {w : World} {b3 n : Nat} {g : Nat → Int} (h : By w b3 n g) (hlt : b3 < w.heap.size) : IsRow w w.heap.size 1 (some ⟨b3, 0, none⟩) n (fun j => .int .u8 (g j)) := fun _ => ⟨_, rfl, hlt, fun j hj => by
  have e : (⟨b3, 0, none⟩ : Addr).add j = ⟨b3, j, none⟩ := by unfold Addr.add; split <;> simp_all
  rw [e]
  exact h j (by omega)⟩
/-- The first bytes of a row. -/
def listOf (g : Nat → Int) (n : Nat) : List Int := (List.range n).map g
theorem list_len (g : Nat → Int) (n : Nat) : (listOf g n).length = n := by simp [listOf]
theorem list_bytes (g : Nat → Int) (n : Nat) (h : ∀ j, 0 ≤ g j ∧ g j ≤ 255) : IsBytes (listOf g n) := by
  intro z hz
  obtain ⟨j, _, rfl⟩ := List.mem_map.1 hz
  exact h j
theorem image_row {w : World} {b n : Nat} {g : Nat → Int} (h : w.rowIs b 5 n (fun j => .int .u8 (g j))) : IsRow w w.heap.size 1 (some ⟨b, 0, none⟩) n (fun j => .int .u8 ((listOf g n).getD j 0)) :=
  (IsRow.of_rowIs (size := 1) (n := n) (c := 0) h (by omega)).congr fun j hj => by
    have hj' : j < n := by omega
    simp [listOf, List.getD_eq_getElem?_getD, hj']
theorem made_u8 (n : Nat) : (madeCells #[Value.int .u8 0] n).toList = u8s (List.replicate n 0) := by
  refine List.ext_getElem (by simp [u8s, size_madeCells]) fun i h1 h2 => ?_
  have hi : i < n := by simpa [u8s] using h2
  simp [madeCells, u8s, hi, Nat.mod_one]
theorem Mm_off {w w' : World} {m k g1 b3 c1 c2 n3 c3 B : Nat} {A2 : Option Addr} {r : Rg} (h : Mm w m k g1 b3 A2 c1 c2 n3 c3 r) (hg : w.grownBy w' (some B)) (hm : m ≠ B) (h1 : g1 ≠ B) (hb : b3 ≠ B) (hA : ∀ a, A2 = some a → a.block ≠ B) : Mm w' m k g1 b3 A2 c1 c2 n3 c3 r := by
  have em := hg.block m h.mem.lt (by intro e; cases e; exact hm rfl)
  have eg := hg.block g1 h.mem.lt1 (by intro e; cases e; exact h1 rfl)
  refine ⟨h.k1, h.rin, h.fit, h.n3c, h.n3b, ?_, h.mb, h.gb, h.ab, Nat.lt_of_lt_of_le h.lt hg.size⟩
  refine ⟨(World.cell?_of_block (a := ⟨m, 0, none⟩) em).trans h.mem.self, (World.cell?_of_block (a := ⟨m, 1, none⟩) em).trans h.mem.regs, (World.cell?_of_block (a := ⟨m, 2, none⟩) em).trans h.mem.sts, (World.cell?_of_block (a := ⟨m, 3, none⟩) em).trans h.mem.bys, Nat.lt_of_lt_of_le h.mem.lt hg.size, Nat.lt_of_lt_of_le h.mem.lt1 hg.size,
    fun j hj => (World.cell?_of_block (a := ⟨g1, j, none⟩) eg).trans (h.mem.row1 j hj), fun b o _ he => ?_, fun hk => ?_⟩
  · rcases he with rfl | rfl
    · exact (World.frozen?_of_block (a := ⟨b, o, none⟩) em).trans (h.mem.fz b o h.mem.lt (.inl rfl))
    · exact (World.frozen?_of_block (a := ⟨b, o, none⟩) eg).trans (h.mem.fz b o h.mem.lt1 (.inr rfl))
  · obtain ⟨ad, e, hlt, hc⟩ := h.mem.row2 hk
    have hne := hA ad e
    exact ⟨ad, e, Nat.lt_of_lt_of_le hlt hg.size, fun j hj => (World.cell?_of_block (a := ad.add j) (by rw [block_of_add]; exact hg.block _ hlt (by intro e'; cases e'; exact hne rfl))).trans (hc j hj)⟩
theorem By_off {w w' : World} {b3 n B : Nat} {g : Nat → Int} (h : By w b3 n g) (hg : w.grownBy w' (some B)) (hlt : b3 < w.heap.size) (hb : b3 ≠ B) : By w' b3 n g := fun j hj =>
  (World.cell?_of_block (a := ⟨b3, j, none⟩) (hg.block b3 hlt (by intro e; cases e; exact hb rfl))).trans (h j hj)
/-- Bytes that came in. -/
structure IsU8s (W : World) (v : Value) (A : Option Addr) (c : Nat) (zs : List Int) : Prop where
  val : v = .slice A zs.length c
  le : zs.length ≤ c
  max : c ≤ maxLen
  row : IsRow W W.heap.size 1 A zs.length (fun j => .int .u8 (zs.getD j 0))
  nil : A = none → zs.length = 0 ∧ c = 0
  byte : IsBytes zs
theorem open_u8s {W : World} {v : Value} {zs : List Int} (h : Args.IsInts W .u8 v zs) : ∃ A c, IsU8s W v A c zs := by
  rcases h with ⟨rfl, rfl⟩ | ⟨a, cap, rfl, h1, h2, h3, h4⟩
  · exact ⟨none, 0, rfl, Nat.le_refl _, by decide, IsRow.none_, fun _ => ⟨rfl, rfl⟩, fun z hz => (by cases hz)⟩
  · refine ⟨some a, cap, rfl, h1, h2, fun hn => ⟨a, rfl, (h3 0 hn).2, fun j hj => (h3 j (by omega)).1⟩, fun e => (by cases e), fun z hz => ?_⟩
    have := h4 z hz
    exact bounds_u8 this

end Go.Proofs.Ytohopmccggggbaa.SgOne
