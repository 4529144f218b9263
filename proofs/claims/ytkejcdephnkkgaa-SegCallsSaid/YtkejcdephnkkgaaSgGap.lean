/- Gather of the program over a pair of memories. -/
import Derived.Test.YtkejcdephnkkgaaSgScp
import Derived.Test.YtkejcdephnkkgaaMGm1
import Derived.Defers
import Derived.Recover
namespace Go.Proofs.Ytkejcdephnkkgaa.SgGap
open Go.RowKit Rw Sg SgCheck SgTake SgTotal SgCut SgMath SgConcat GmFind GmWord GmRead GmWrite GmLoad GmTwo SgPair SgMem SgScp
set_option linter.unusedVariables false
set_option linter.unusedSimpArgs false


/-- The bytes of segments, one list each; all of them. -/
def segBytes (r : Rg) (k : Nat) (g : Nat → Int) (x : S3) : List Int := (List.range x.n.toNat).map fun j => g ((place r k x.a x.n).getD 0 + j)
def gparts (r : Rg) (k : Nat) (g : Nat → Int) (l : List S3) : List (List Int) := l.map (segBytes r k g)
def gaL (r : Rg) (k : Nat) (g : Nat → Int) (l : List S3) : List Int := (gparts r k g l).flatten
theorem segBytes_len (r : Rg) (k : Nat) (g : Nat → Int) (x : S3) : (segBytes r k g x).length = x.n.toNat := by simp [segBytes]
theorem gaL_cons (r : Rg) (k : Nat) (g : Nat → Int) (x : S3) (l : List S3) : gaL r k g (x :: l) = segBytes r k g x ++ gaL r k g l := rfl
theorem gaL_len (r : Rg) (k : Nat) (g : Nat → Int) (l : List S3) (h : ∀ x ∈ l, x.Val) : ((gaL r k g l).length : Int) = sm l := by
  induction l with
  | nil => rfl
  | cons x l ih =>
    have := ih (fun y hy => h y (by simp [hy]))
    have := (h x (by simp)).n0
    rw [gaL_cons, List.length_append, segBytes_len, sm_cons]
    omega
theorem gparts_get (r : Rg) (k : Nat) (g : Nat → Int) (l : List S3) {q : Nat} (hq : q < l.length) : (gparts r k g l)[q]? = some (segBytes r k g (at_ l q)) := by
  unfold gparts at_
  rw [List.getElem?_map, List.getElem?_eq_getElem hq, List.getD_eq_getElem?_getD, List.getElem?_eq_getElem hq]
  rfl

theorem PartsAt.only {w w' : World} {vs xs : List Value} {bss : List (List Int)} {base n c : Nat} {A : Option Addr} (h : PartsAt w vs bss) (ho : w.ownsRow base 24 1 (.slice A n c) n xs) (hg : w.grownBy w' (Value.slice A n c).ownBlock) : PartsAt w' vs bss :=
  ⟨h.1, fun i ns hi => by
    obtain ⟨b, h1, h2⟩ := h.2 i ns hi
    refine ⟨b, h1, h2.of_block (hg.block b h2.lt fun e => ?_)⟩
    rcases ho.2 with ⟨h3, _⟩ | ⟨g', cap, cur, h3, _, hh, _⟩
    · rw [h3] at e; cases e
    · rw [h3] at e
      cases e
      obtain ⟨cur', hh', _⟩ := h2
      rw [hh] at hh'
      injection hh' with hh'
      injection hh' with _ ht
      exact absurd ht (by decide)⟩
theorem PartsAt.snoc {w : World} {vs : List Value} {bss : List (List Int)} {ns : List Int} {b : Nat} (h : PartsAt w vs bss) (hb : w.rowIs b 5 ns.length (fun j => .int .u8 (ns.getD j 0))) : PartsAt w (vs ++ [.slice (some ⟨b, 0, none⟩) ns.length ns.length]) (bss ++ [ns]) := by
  refine ⟨by simp [h.1], fun i ms hi => ?_⟩
  by_cases hl : i < bss.length
  · rw [List.getElem?_append_left hl] at hi
    obtain ⟨b', h1, h2⟩ := h.2 i ms hi
    exact ⟨b', by rw [List.getElem?_append_left (by rw [h.1]; exact hl)]; exact h1, h2⟩
  · rw [List.getElem?_append_right (by omega)] at hi
    have h0 : i - bss.length = 0 := by
      rcases Nat.eq_zero_or_pos (i - bss.length) with e | e
      · exact e
      · rw [List.getElem?_eq_none (by simp; omega)] at hi; cases hi
    rw [h0] at hi
    simp at hi
    subst hi
    exact ⟨b, by rw [List.getElem?_append_right (by rw [h.1]; omega), h.1, h0]; rfl, hb⟩

set_option maxRecDepth 100000 in
set_option maxHeartbeats 1000000 in
theorem sums_agree (B n c : Nat) (A : Option Addr) (u : FrameMode) (w : World) (h0 : w.cell? ⟨B + 1, 0, none⟩ = some (.slice A n c)) (h1 : w.cell? ⟨B, 0, none⟩ = some (.int .u64 n)) (hn : n ≤ 1000000000000) :
    CallsD Try.prog 69 #[.pointer (some ⟨B + 1, 0, none⟩), .pointer (some ⟨B, 0, none⟩), .pointer (some ⟨B + 1 + 1, 0, none⟩)] u w fun e u' w' => u' = u ∧ (e = .returned (.tuple #[]) ∧ w' = w) := by
  go_enter_d Try.func69, Try.ntmps69
  go_wp2
  go_end0
  exact ⟨rfl, rfl⟩

/-- What join answers. -/
def JoinP (ns : List Int) (w : World) (e : Ending) (w' : World) : Prop := ∃ (A : Option Addr) (c : Nat), e = .returned (.tuple #[.slice A ns.length c, .int .i64 0]) ∧ w'.ownsRow w.heap.size 5 1 (.slice A ns.length c) ns.length (u8s ns) ∧ Below w.heap.size w w'

theorem slinfo : ∃ i, Try.prog.info? 24 = some i ∧ i.zero = some (.slice none 0 0) ∧ i.size = 1 ∧ i.bytes = 24 := by
  have h : (Try.prog.info? 24).map (fun i => (i.size, i.bytes)) = some (1, 24) := by kernel_rfl
  have h2 : (Try.prog.info? 24).bind (fun i => i.zero) = some (.slice none 0 0) := by kernel_rfl
  obtain ⟨i, hi, hs⟩ := Option.map_eq_some_iff.1 h
  rw [hi] at h2
  exact ⟨i, hi, h2, (Prod.mk.inj hs).1, (Prod.mk.inj hs).2⟩

/-- The variables that the deferred function looks at. -/
def Box (w : World) (B S : Nat) : Prop := w.cell? ⟨B, 0, none⟩ = some (.int .u64 S) ∧ w.cell? ⟨B + 1, 0, none⟩ = some (.slice none 0 0) ∧ w.frozen? ⟨B + 1, 0, none⟩ = false ∧ w.cell? ⟨B + 1 + 1, 0, none⟩ = some (.int .i64 0) ∧ w.frozen? ⟨B + 1 + 1, 0, none⟩ = false ∧ B + 1 + 1 + 1 ≤ w.heap.size
theorem Box.grown {w w' : World} {B S : Nat} {row : Option Nat} (h : Box w B S) (hg : w.grownBy w' row) (hr : ∀ b, row = some b → B + 1 + 1 + 1 ≤ b) : Box w' B S := by
  obtain ⟨h1, h2, h3, h4, h5, h6⟩ := h
  have e0 := hg.block B (by omega) (fun e => by have := hr _ e.symm; omega)
  have e1 := hg.block (B + 1) (by omega) (fun e => by have := hr _ e.symm; omega)
  have e2 := hg.block (B + 1 + 1) (by omega) (fun e => by have := hr _ e.symm; omega)
  exact ⟨(World.cell?_of_block (a := ⟨B, 0, none⟩) e0).trans h1, (World.cell?_of_block (a := ⟨B + 1, 0, none⟩) e1).trans h2, (World.frozen?_of_block (a := ⟨B + 1, 0, none⟩) e1).trans h3, (World.cell?_of_block (a := ⟨B + 1 + 1, 0, none⟩) e2).trans h4, (World.frozen?_of_block (a := ⟨B + 1 + 1, 0, none⟩) e2).trans h5, Nat.le_trans h6 hg.size⟩
theorem flat_take {bss : List (List Int)} {i : Nat} {ns : List Int} (h : bss[i]? = some ns) : bss.take (i + 1) = bss.take i ++ [ns] := by
  rw [List.take_add_one, h]
  rfl
theorem own_below {w w' : World} {base : Nat} {e : TypeId} {size n c : Nat} {A : Option Addr} {xs : List Value} (h : w.ownsRow base e size (.slice A n c) n xs) (hb : Below w.heap.size w w') : w'.ownsRow base e size (.slice A n c) n xs := by
  refine h.kept (only_of_below hb none) ?_
  cases ho : (Value.slice A n c).ownBlock with
  | none => exact .inl rfl
  | some g => exact .inr (by simp)

set_option maxRecDepth 100000 in
set_option maxHeartbeats 8000000 in
theorem join_any {P : Nums} {SZ top : Nat} {TT : World → (Nat → Int) → (Nat → Int) → Prop} (hPair : Pair P SZ top TT) (A : Option Addr) (c : Nat) (l : List S3) (g gd : Nat → Int) (w : World) (hM : TT w g gd) (hb : Buf l) (hi : allIn P.r P.k l = true) (h : Lst w w.heap.size A l)
    (hs : sm l ≤ 1000000000) :
    Calls Try.prog 54 #[.pointer (some ⟨P.m, 0, none⟩), .slice A l.length c, .int .u64 (sm l)] w (JoinP (gaL P.r P.k g l) w) := by
  have hb0 : Below w.heap.size w w := Below.refl _ _
  have hmf : ∀ (fn : Fn) (first cap : Array Value) (w : World), (Instr.makeFunc fn first cap).run Try.prog w = .ok (.func fn first cap) w := fun _ _ _ _ => rfl
  obtain ⟨i0, hi0, hz0, hz1, hz2⟩ := slinfo
  have HI0 := Lib.hid hi0
  have HI1 := Lib.hid hz0
  have HI2 := Lib.hid hz1
  have HI3 := Lib.hid hz2
  have hlen : l.length ≤ 64 := hb.len
  have hsl := gaL_len P.r P.k g l hb.val
  have hs0 := sm_nonneg hb.val
  obtain ⟨S, hS⟩ : ∃ S : Nat, sm l = S := ⟨(sm l).toNat, by omega⟩
  rw [hS] at hs hsl hs0 ⊢
  obtain ⟨ns, hns⟩ : ∃ ns, gaL P.r P.k g l = ns := ⟨_, rfl⟩
  rw [hns] at hsl ⊢
  have hnl : ns.length = S := by omega
  obtain ⟨N, hN⟩ : ∃ N, l.length = N := ⟨_, rfl⟩
  have HM := Lib.hid hM
  have HB := Lib.hid hb
  have HIN := Lib.hid hi
  have HL := Lib.hid h
  have HNS := Lib.hid hns
  have HNL := Lib.hid hnl
  have HN := Lib.hid hN
  unfold JoinP
  rw [hnl]
  rw [hN] at hlen ⊢
  clear hi0 hz0 hz1 hz2 hM hb hi h hS hns hnl hN hsl
  go_enter_defers Try.func54, Try.ntmps54
  go_wp2_with fail
  obtain ⟨B, hB⟩ : ∃ B, w.heap.size = B := ⟨_, rfl⟩
  have hx0 : Box (((w.alloc (.cells #[.int .u64 S] 25)).alloc (.cells #[.slice none 0 0] 24)).alloc (.cells #[.int .i64 0] 29)) B S := by
    subst hB
    exact ⟨by go_cell, by go_cell, by go_simp, by go_cell, by go_simp, by simp⟩
  have hbw : Below B w (((w.alloc (.cells #[.int .u64 S] 25)).alloc (.cells #[.slice none 0 0] 24)).alloc (.cells #[.int .i64 0] 29)) := by
    subst hB
    go_grown
  generalize (((w.alloc (.cells #[.int .u64 S] 25)).alloc (.cells #[.slice none 0 0] 24)).alloc (.cells #[.int .i64 0] 29)) = W0 at hx0 hbw ⊢
  rw [hB]
  have hbs := hbw.size
  rw [hB] at hbs
  go_loopw [8, 16] (fun x y wr => ∃ (q : Nat) (AP : Option Addr) (C : Nat) (vs : List Value), q ≤ N ∧ x = .slice AP q C ∧ y = .int .i64 q ∧ wr.ownsRow (B + 1 + 1 + 1) 24 1 (.slice AP q C) q vs ∧ PartsAt wr vs ((gparts P.r P.k g l).take q) ∧ Box wr B S ∧ Below B w wr) (fun x y wr => N - (intOf y).toNat)
  case atStart => exact ⟨0, none, 0, [], by omega, rfl, rfl, ⟨rfl, .inl ⟨rfl, rfl⟩⟩, ⟨by simp, fun i ns hi => by simp at hi⟩, hx0, hbw⟩
  case round =>
    obtain ⟨q, AP, C, vs, hqN, rfl, rfl, hown, hP, hx, hb⟩ := hrel
    have hsw := hx.2.2.2.2.2
    have hBw : w.heap.size ≤ wr.heap.size := hb.size
    by_cases hlt : q < N
    · have hLw : Lst wr wr.heap.size A l := (IsRow.below HL.out (hB ▸ hb)).more hBw
      obtain ⟨ad, rfl, had, d0, d1, d2⟩ := el (k := q) hLw (by rw [HN.out]; exact hlt)
      have hmem := at_mem l (show q < l.length by rw [HN.out]; exact hlt)
      have hxv := HB.out.val _ hmem
      have hxi : (place P.r P.k (at_ l q).a (at_ l q).n).isSome = true := List.all_eq_true.1 HIN.out _ hmem
      have hgp := gparts_get P.r P.k g l (show q < l.length by rw [HN.out]; exact hlt)
      have hft := flat_take hgp
      obtain ⟨x, hxx⟩ : ∃ x, at_ l q = x := ⟨_, rfl⟩
      rw [hxx] at d0 d1 d2 hxv hxi hft
      obtain ⟨r0, r1, r2, r3⟩ := hxv
      obtain ⟨a, n, b⟩ := x
      simp only at d0 d1 d2 r0 r1 r2 r3 hxi
      obtain ⟨X, rfl⟩ : ∃ X : Nat, n = (X : Int) := ⟨n.toNat, by omega⟩
      obtain ⟨o, ho⟩ := Option.isSome_iff_exists.1 hxi
      have hMw : TT wr g gd := hPair.below HM.out (hB ▸ hb)
      have hbl : Below wr.heap.size wr (wr.alloc (.cells #[.int .u64 a, .int .u32 X, .bool b] 73)) := (Below.refl _ _).alloc (Nat.le_refl _) _
      have HMw := Lib.hid (hPair.below hMw hbl)
      have ua : u64in a := ⟨r0, by omega⟩
      have HO := Lib.hid hown
      have HP := Lib.hid hP
      have HX := Lib.hid hx
      have HF := Lib.hid hft
      have HPL := Lib.hid ho
      clear hown hP hx hLw hxi hxx hgp hft hMw hmem ho
      go_wp2_with fail
      (with_reducible refine (hPair.pread1 a X o (wr.alloc (.cells #[.int .u64 a, .int .u32 X, .bool b] 73)) g gd HMw.out ua (by omega) (by omega) HPL.out).mono ?_)
      rintro e W3 ⟨bb, rfl, hrow3, hg3⟩
      have hb43 : Below wr.heap.size wr W3 := hbl.trans (hg3.mono (by simp))
      have hs3 := hb43.size
      have hSL : (segBytes P.r P.k g ⟨a, X, b⟩).length = X := by rw [segBytes_len]; exact Int.toNat_natCast X
      have hrow3' : W3.rowIs bb 5 (segBytes P.r P.k g ⟨a, X, b⟩).length (fun j => .int .u8 ((segBytes P.r P.k g ⟨a, X, b⟩).getD j 0)) := by
        rw [hSL]
        refine hrow3.congr fun j hj => ?_
        have hj' : j < X := hj
        unfold segBytes
        simp [List.getD_eq_getElem?_getD, hj', HPL.out]
      have hb4 : Below W3.heap.size W3 (W3.alloc (.cells #[.slice (some ⟨bb, 0, none⟩) X X] 24)) := (Below.refl _ _).alloc (Nat.le_refl _) _
      have HO4 := Lib.hid (own_below (own_below HO.out hb43) hb4)
      have hP4 := (PartsAt.snoc ((HP.out.below hb43).below hb4) (hrow3'.of_block (hb4.block bb hrow3'.lt)))
      rw [hSL] at hP4
      have HP4 := Lib.hid hP4
      have HN4 := Lib.hid (show ∀ j u, [Value.slice (some ⟨bb, 0, none⟩) X X][j]? = some u → (W3.alloc (.cells #[.slice (some ⟨bb, 0, none⟩) X X] 24)).cell? ((⟨W3.heap.size, 0, none⟩ : Addr).add j) = some u from by
        intro j u hu
        match j, hu with
        | 0, hu =>
          cases hu
          exact (World.rowIs_alloc W3 #[.slice (some ⟨bb, 0, none⟩) X X] 24 (fun _ => .slice (some ⟨bb, 0, none⟩) X X) (fun i hi => by
            match i, hi with
            | 0, _ => rfl)).cell (i := 0) (by simp))
      have HX4 := Lib.hid ((HX.out.grown (only_of_below hb43 none) (fun _ e => by cases e)).grown (only_of_below hb4 none) (fun _ e => by cases e))
      have hbw4 : Below B w (W3.alloc (.cells #[.slice (some ⟨bb, 0, none⟩) X X] 24)) := (hb.trans (hb43.mono (by omega))).trans (hb4.mono (by omega))
      clear hrow3 hrow3' hP4 hg3 hb4 hb43 hbl d0 d1 d2
      go_wp2_with (at_builtin; refine wpList_append_own _ rfl _ _ 80 rfl (B + 1 + 1 + 1) 24 i0 (.slice none 0 0) 1 24 Try.underlying80 HI0.out HI1.out HI2.out HI3.out rfl (by decide) (.slice AP q C) q vs rfl HO4.out ⟨W3.heap.size, 0, none⟩ 1 1 [.slice (some ⟨bb, 0, none⟩) X X] rfl rfl HN4.out (by simp [Value.oneCell']) (by unfold maxLen; omega) (by omega) (by simp; omega) ?_)
      intro v5 W5 hown5 hg5 _
      obtain ⟨A5, C5, rfl⟩ := GmNew.own_slice hown5
      have hP5 := PartsAt.only HP4.out HO4.out hg5
      rw [← HF.out] at hP5
      have hX5 := HX4.out.grown hg5 (fun b e => GmNew.own_block HO4.out b e)
      have hb5 : Below B w W5 := hbw4.grown hg5 (by simp; omega) (fun b e => by have := GmNew.own_block HO4.out b e; omega)
      have HH := Lib.hid (And.intro hown5 (And.intro hP5 (And.intro hX5 hb5)))
      clear hown5 hP5 hX5 hb5 hg5
      go_wp2_with fail
      go_roundw
      case rel => exact ⟨q + 1, A5, C5, _, by omega, rfl, by go_num, HH.out.1, HH.out.2.1, HH.out.2.2.1, HH.out.2.2.2⟩
      case measure => simp [intOf]; omega
    · obtain rfl : q = N := by omega
      have hvl : vs.length = q := by have := hown.1; omega
      have e1 : (gparts P.r P.k g l).take q = gparts P.r P.k g l := List.take_of_length_le (by unfold gparts; rw [List.length_map, HN.out]; exact Nat.le_refl _)
      rw [e1] at hP
      have hro := IsRow.of_own hown
      have HC := Lib.hid (concat_any AP C vs (gparts P.r P.k g l) wr hP (by rw [hvl]; exact hro) (by omega) (by show (gaL P.r P.k g l).length ≤ _; rw [HNS.out, HNL.out]; omega))
      rw [hvl] at HC
      have HX := Lib.hid hx
      clear hown hP hx e1 hro
      go_wp2_with fail
      (with_reducible refine HC.out.mono ?_)
      rintro e W6 ⟨A6, C6, rfl, hown6, hg6⟩
      have hfl : (gparts P.r P.k g l).flatten = ns := HNS.out
      rw [hfl, HNL.out] at hown6
      rw [hfl, HNL.out]
      have hx6 := HX.out.grown (only_of_below hg6 none) (fun _ e => by cases e)
      have hb6 : Below B w W6 := hb.trans (hg6.mono (by omega))
      have hs6 := hg6.size
      have H6 := Lib.hid hown6
      obtain ⟨x1, x2, x3, x4, x5, x6⟩ := hx6
      clear HC hown6 hg6 hfl
      go_wp2_with fail
      have k1 : ((W6.setCell ⟨B + 1, 0, none⟩ (.slice A6 S C6)).setCell ⟨B + 1 + 1, 0, none⟩ (.int .i64 0)).cell? ⟨B + 1, 0, none⟩ = some (.slice A6 S C6) :=
        (World.cell?_setCell_other _ _ _ _ (by simp)).trans (World.cell?_setCell_same _ _ _ x2)
      have k2 : ((W6.setCell ⟨B + 1, 0, none⟩ (.slice A6 S C6)).setCell ⟨B + 1 + 1, 0, none⟩ (.int .i64 0)).cell? ⟨B, 0, none⟩ = some (.int .u64 S) :=
        (World.cell?_setCell_other _ _ _ _ (by intro e; injection e with e1; omega)).trans ((World.cell?_setCell_other _ _ _ _ (by simp)).trans x1)
      have k3 : ((W6.setCell ⟨B + 1, 0, none⟩ (.slice A6 S C6)).setCell ⟨B + 1 + 1, 0, none⟩ (.int .i64 0)).cell? ⟨B + 1 + 1, 0, none⟩ = some (.int .i64 0) :=
        World.cell?_setCell_same _ _ _ (u := .int .i64 0) ((World.cell?_setCell_other _ _ _ _ (by simp)).trans x4)
      have hbF : Below B w ((W6.setCell ⟨B + 1, 0, none⟩ (.slice A6 S C6)).setCell ⟨B + 1 + 1, 0, none⟩ (.int .i64 0)) := (hb6.setCell (by show B ≤ B + 1; omega) _).setCell (by show B ≤ B + 1 + 1; omega) _
      have hoF : ((W6.setCell ⟨B + 1, 0, none⟩ (.slice A6 S C6)).setCell ⟨B + 1 + 1, 0, none⟩ (.int .i64 0)).ownsRow B 5 1 (.slice A6 S C6) S (u8s ns) := by
        have h1 := GmNew.own_ne H6.out (row := some (B + 1)) (only_setCell (GmNew.grown_refl _ _) (p := ⟨B + 1, 0, none⟩) (.inl rfl) (.slice A6 S C6)) (fun b e => by cases e; left; omega)
        have h2 := GmNew.own_ne h1 (row := some (B + 1 + 1)) (only_setCell (GmNew.grown_refl _ _) (p := ⟨B + 1 + 1, 0, none⟩) (.inl rfl) (.int .i64 0)) (fun b e => by cases e; left; omega)
        exact own_base h2 (by omega)
      generalize ((W6.setCell ⟨B + 1, 0, none⟩ (.slice A6 S C6)).setCell ⟨B + 1 + 1, 0, none⟩ (.int .i64 0)) = WF at k1 k2 k3 hbF hoF ⊢
      refine leaves_cons (f := 69) (args := #[.pointer (some ⟨B + 1, 0, none⟩), .pointer (some ⟨B, 0, none⟩), .pointer (some ⟨B + 1 + 1, 0, none⟩)]) (by simp) (by simp [go_sem]) ?_
      refine (sums_agree B S C6 A6 .returning _ k1 k2 (by omega)).mono ?_
      rintro e u' w'' ⟨rfl, rfl, rfl⟩
      refine ⟨.tuple #[.slice A6 S C6, .int .i64 0], ?_, A6, C6, rfl, ?_, ?_⟩
      · simp [results, Try.results54, go_sem, k1, k3]
      · rw [hB]; exact hoF
      · rw [hB]; exact hbF


theorem sm_part_false {l : List S3} (hb : Buf l) : sm (partL l false) = rd l := by
  unfold partL
  rw [if_neg (by decide), hb.cut0, sm_take _ _ hb.val hb.rd0, if_pos (by have := hb.rd_wr; have := hb.wr0; omega)]
theorem sm_part_true {l : List S3} (hb : Buf l) : sm (partL l true) = wr l := by
  have h := sm_split (rd l) l hb.val
  rw [sm_take _ _ hb.val hb.rd0, if_pos (by have := hb.rd_wr; have := hb.wr0; omega)] at h
  have h2 := hb.rd_wr
  unfold partL
  rw [if_pos rfl, hb.cut, take_all _ _ (hb.drop _ hb.rd0).val (by omega)]
  omega
set_option maxRecDepth 100000 in
set_option maxHeartbeats 4000000 in
theorem gather_bad {P : Nums} {SZ top : Nat} {TT : World → (Nat → Int) → (Nat → Int) → Prop} (hPair : Pair P SZ top TT) (g gd : Nat → Int) (A : Option Addr) (c : Nat) (l : List S3) (w : World) (hM : TT w g gd) (hn : l.length ≤ 1000000) (hraw : ∀ x ∈ l, x.Raw) (h : Lst w w.heap.size A l) (hi : inL P.r P.k l ≠ 0) :
    Calls Try.prog 28 #[.pointer (some ⟨P.m, 0, none⟩), .slice A l.length c] w fun e w' => e = .returned (.tuple #[.slice none 0 0, .int .i64 (inL P.r P.k l)]) ∧ Below w.heap.size w w' := by
  have hb0 : Below w.heap.size w w := Below.refl _ _
  have h1 : (inL P.r P.k l == 0) = false := by simp [hi]
  have HM := Lib.hid hM
  have HL := Lib.hid h
  clear hM h hi
  go_enter Try.func28, Try.ntmps28
  go_wp2_with fail
  refine (in_p hPair g gd A c l _ HM.out hn hraw HL.out).mono ?_
  rintro eE W1 ⟨rfl, hg1⟩
  have hb1 : Below w.heap.size w W1 := (show Below w.heap.size w _ by go_grown).trans (hg1.mono (by first | omega | go_size))
  obtain ⟨hc1, hf1⟩ := bcell hg1
  have hs1 := hg1.size
  try simp only [World.size_alloc, World.size_setCell, World.size_drew] at hs1
  clear hg1 hc1 hf1
  go_wp2_with fail
  go_returns
  exact ⟨rfl, by go_grown⟩

set_option maxRecDepth 100000 in
set_option maxHeartbeats 8000000 in
theorem gather_ok {P : Nums} {SZ top : Nat} {TT : World → (Nat → Int) → (Nat → Int) → Prop} (hPair : Pair P SZ top TT) (g gd : Nat → Int) (A : Option Addr) (c : Nat) (l : List S3) (w : World) (hM : TT w g gd)
    (hraw : ∀ x ∈ l, x.Raw) (h : Lst w w.heap.size A l) (hi : inL P.r P.k l = 0) (hst : ∀ i, i < P.k → 0 ≤ P.r.st i) (hs : rd l ≤ 1000000000) :
    Calls Try.prog 28 #[.pointer (some ⟨P.m, 0, none⟩), .slice A l.length c] w (JoinP (gaL P.r P.k g (partL l false)) w) := by
  have hb0 : Below w.heap.size w w := Below.refl _ _
  obtain ⟨hk1, hk2⟩ := inL_ok hi
  have hbuf := Buf.of hraw hk1
  have hpb := part_buf false hbuf
  have hpi := part_in hst false hk2 hbuf
  have hsp := sm_part_false hbuf
  obtain ⟨Q, hQ⟩ : ∃ Q, partL l false = Q := ⟨_, rfl⟩
  rw [hQ] at hpb hpi hsp ⊢
  obtain ⟨R, hR⟩ : ∃ R, rd l = R := ⟨_, rfl⟩
  rw [hR] at hs hsp
  have h1 : (inL P.r P.k l == 0) = true := by simp [hi]
  have hlen : l.length ≤ 64 := hbuf.len
  have hz : l.length ≤ 1000000 := by omega
  have HM := Lib.hid hM
  have HL := Lib.hid h
  have HE := Lib.hid (And.intro hQ (And.intro hR hsp))
  have HB := Lib.hid (And.intro hbuf hpb)
  have HI := Lib.hid hpi
  clear hM h hQ hR hsp hbuf hpb hpi hst hk1 hk2 hraw
  unfold JoinP
  go_enter Try.func28, Try.ntmps28
  go_wp2_with fail
  (with_reducible refine (in_p hPair g gd A c l _ HM.out hz HB.out.1.raw HL.out).mono ?_)
  rintro e W1 ⟨rfl, hg1⟩
  have L1 := Lib.hid (lon HL.out hg1)
  have hs1 := hg1.size
  have hb1 := hg1
  clear hg1
  rw [hi]
  clear h1 hi
  go_wp2_with fail
  (with_reducible refine (total_any A c l _ (by omega) HB.out.1.raw L1.out).mono ?_)
  rw [HE.out.2.1]
  rintro e W2 ⟨rfl, hg2⟩
  have L2 := Lib.hid (lon L1.out hg2)
  have hs2 := hg2.size
  have hb2 : Below w.heap.size w W2 := hb1.trans (hg2.mono hs1)
  clear hg2
  go_wp2_with fail
  (with_reducible refine (part_any A c l false _ hz HB.out.1.raw L2.out).mono ?_)
  rw [HE.out.1]
  rintro e W3 ⟨A3, c3', rfl, h3, hc3, hg3⟩
  have hb3 : Below w.heap.size w W3 := hb2.trans (hg3.mono (by omega))
  have hs3 := hg3.size
  have L3 := Lib.hid h3
  have HM3 := Lib.hid (hPair.below HM.out hb3)
  clear h3 hc3 hg3
  go_wp2_with fail
  have HJ := Lib.hid (join_any hPair A3 c3' Q g gd W3 HM3.out HB.out.2 HI.out L3.out (by rw [HE.out.2.2]; exact hs))
  rw [HE.out.2.2] at HJ
  (with_reducible refine HJ.out.mono ?_)
  rintro e W4 ⟨A4, c4, rfl, h4, hg4⟩
  have hb4 : Below w.heap.size w W4 := hb3.trans (hg4.mono (by omega))
  have H4 := Lib.hid (own_base h4 (show w.heap.size ≤ W3.heap.size by omega))
  clear HJ h4 hg4
  go_wp2_with fail
  go_returns
  exact ⟨A4, c4, rfl, H4.out, hb4⟩

end Go.Proofs.Ytkejcdephnkkgaa.SgGap
