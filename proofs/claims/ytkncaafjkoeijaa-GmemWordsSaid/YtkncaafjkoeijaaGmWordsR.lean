/- The law GmemWords: its last region, whatever the order of its operations: one of them writes the memory's bytes. -/
import Derived.Test.YtkncaafjkoeijaaGmMm
import Derived.Test.YtkncaafjkoeijaaGmWordsM
import Derived.Test.YtkncaafjkoeijaaAssertG
import Derived.Shelf.Abstract
namespace Go.Proofs.Ytkncaafjkoeijaa.AsrtG
open Go Go.RowKit Eng Lib Rw
/-- Only block b3 turns; once its bytes are g3 they stay. -/
def GR (b3 c3 : Nat) (g3 : Nat → Int) : Rel := fun w w' => w.grownBy w' (some b3) ∧ (w.rowIs b3 5 c3 (fun j => .int .u8 (g3 j)) → w'.rowIs b3 5 c3 (fun j => .int .u8 (g3 j)))
theorem gr_refl {b3 c3 : Nat} {g3 : Nat → Int} (w : World) : GR b3 c3 g3 w w := ⟨⟨rfl, rfl, rfl, Nat.le_refl _, fun _ _ _ => rfl⟩, fun h => h⟩
theorem gr_trans {b3 c3 : Nat} {g3 : Nat → Int} (a b c : World) (h : GR b3 c3 g3 a b) (k : GR b3 c3 g3 b c) : GR b3 c3 g3 a c := ⟨only_trans h.1 k.1, fun z => k.2 (h.2 z)⟩
theorem gr_drew {b3 c3 : Nat} {g3 : Nat → Int} (w : World) : GR b3 c3 g3 w w.drew := ⟨only_drew (gr_refl (b3 := b3) (c3 := c3) (g3 := g3) w).1, fun h => h.of_block rfl⟩
theorem gr_below {b3 c3 : Nat} {g3 : Nat → Int} {w w' : World} (hlt : b3 < w.heap.size) (hb : Below w.heap.size w w') : GR b3 c3 g3 w w' := ⟨⟨hb.os, hb.tape, hb.output, hb.size, fun k hk _ => hb.block k hk⟩, fun h => h.of_block (hb.block b3 hlt)⟩
/-- A slice of bytes of another block. -/
def As.wrow (b3 c3 : Nat) (g3 : Nat → Int) (n cap : Nat) (f : Nat → Int) : As (GR b3 c3 g3) :=
  ⟨fun v w => ∃ b N, v = .slice (some ⟨b, 0, none⟩) n cap ∧ b ≠ b3 ∧ n ≤ N ∧ w.rowIs b 5 N (fun j => .int .u8 (f j)), fun _ _ _ ⟨b, N, e, hne, hN, h⟩ hb => ⟨b, N, e, hne, hN, h.of_block (hb.1.block b h.lt (fun e => hne (Option.some.inj e)))⟩⟩
/-- A value; the bytes are g3. -/
def As.done (b3 c3 : Nat) (g3 : Nat → Int) (c : Value) : As (GR b3 c3 g3) := ⟨fun v w => v = c ∧ w.rowIs b3 5 c3 (fun j => .int .u8 (g3 j)), fun _ _ _ h hb => ⟨h.1, hb.2 h.2⟩⟩
end Go.Proofs.Ytkncaafjkoeijaa.AsrtG
namespace Go.Proofs.Ytkncaafjkoeijaa.GmWordsR
open Go.ChangeShapes Go.WideShapes Go.ChangeAt Go.RowKit Rw Le GmFind GmLoad GmWrite GmMm GmWordsM AsrtG
set_option linter.unusedVariables false
set_option linter.unusedSimpArgs false

noncomputable def OPS : Array Oper := AsrtG.opsOf Try.f5 30
def g3 (G2 : Nat → Int) (q : Nat) (j : Nat) : Int := if q ≤ j ∧ j < q + 1 then bits .xor .u8 (G2 q) 1 else G2 j
def zstr (q : Nat) : ByteArray := ⟨((List.range q).map fun _ => UInt8.ofNat 0).toArray⟩
/-- What every world on the way is. -/
structure Cl (w0 : World) (m ga b3 c2 c3 bb q : Nat) (A2 : Option Addr) (G2 : Nat → Int) (W : World) : Prop where
  bel : Below w0.heap.size w0 W
  mm : Mm W m 1 ga b3 A2 1 c2 64 c3 (GmOne.oneM 1000 64)
  now : W.rowIs b3 5 c3 (fun j => .int .u8 (G2 j)) ∨ W.rowIs b3 5 c3 (fun j => .int .u8 (g3 G2 q j))
  rbb : W.rowIs bb 5 8 (fun j => .int .u8 (G2 (q + j)))
  ne : bb ≠ b3
  lo : w0.heap.size ≤ b3
section
variable {w0 W : World} {m ga b3 c2 c3 bb q : Nat} {A2 : Option Addr} {G2 : Nat → Int} {o : Oper} {a : Act}
theorem Cl.below {W' : World} (h : Cl w0 m ga b3 c2 c3 bb q A2 G2 W) (hb : Below W.heap.size W W') : Cl w0 m ga b3 c2 c3 bb q A2 G2 W' :=
  ⟨h.bel.trans (hb.mono h.bel.size), h.mm.below hb, h.now.imp (fun r => r.of_block (hb.block b3 h.mm.lt)) (fun r => r.of_block (hb.block b3 h.mm.lt)), h.rbb.of_block (hb.block bb h.rbb.lt), h.ne, h.lo⟩
theorem u8info : ∃ i, Try.prog.info? 5 = some i ∧ i.zero = some (.int .u8 0) ∧ i.size = 1 ∧ i.bytes = 1 := GmNew.u8info
theorem mem_build {s : Nat} {y : Int} {Tv : Value → World → Prop} (hC : Cl w0 m ga b3 c2 c3 bb q A2 G2 W) (hs : a.tmps.getD s undef = .int .u8 y) (hop : o.op = .buildSlice 37 1 #[(0, .tmp s)])
    (hT : ∀ v w, (As.wrow b3 c3 (g3 G2 q) 1 1 (fun _ => y)).φ v w → Tv v w) : ∃ v w', (execOp a.eval o).run Try.prog W = .ok (.value v) w' ∧ Cl w0 m ga b3 c2 c3 bb q A2 G2 w' ∧ GR b3 c3 (g3 G2 q) W w' ∧ Tv v w' := by
  have hb : Below W.heap.size W (W.alloc (.cells #[.int .u8 y] 5)) := (Below.refl _ _).alloc (Nat.le_refl _) _
  refine ⟨.slice (some ⟨W.heap.size, 0, none⟩) 1 1, W.alloc (.cells #[.int .u8 y] 5), ?_, hC.below hb, gr_below hC.mm.lt hb, hT _ _ ⟨W.heap.size, 1, rfl, by have := hC.mm.lt; omega, Nat.le_refl _, ?_⟩⟩
  · simp only [execOp, hop, Act.eval, List.map_toArray, List.map_cons, List.map_nil, hs]
    simp [go_sem]
  · exact World.rowIs_alloc W #[.int .u8 y] 5 _ (fun j hj => by
      match j, hj with
      | 0, _ => rfl)
theorem mem_make {s : Nat} {Tv : Value → World → Prop} (hC : Cl w0 m ga b3 c2 c3 bb q A2 G2 W) (hs : a.tmps.getD s undef = .int .u64 (q : Int)) (hq : q < 57) (hop : o.op = .makeSlice 37 (.tmp s) (.tmp s))
    (hT : ∀ v w, (As.wrow b3 c3 (g3 G2 q) q q (fun _ => 0)).φ v w → Tv v w) : ∃ v w', (execOp a.eval o).run Try.prog W = .ok (.value v) w' ∧ Cl w0 m ga b3 c2 c3 bb q A2 G2 w' ∧ GR b3 c3 (g3 G2 q) W w' ∧ Tv v w' := by
  obtain ⟨i0, hi0, hz0, hs0, hby⟩ := u8info
  have hr := run_make (P := Try.prog) W 37 5 i0 (.int .u8 0) Try.underlying37 hi0 hz0 .u64 .u64 (q : Int) (q : Int) (by omega) (Int.le_refl _) (by rw [hby]; omega) (by omega)
  rw [hs0] at hr
  simp only [Int.toNat_natCast, Nat.mul_one] at hr
  have hrow := World.rowIs_made W (.int .u8 0) q 5
  have hb : Below W.heap.size W (W.alloc (.cells (madeCells #[.int .u8 0] q) 5)) := (Below.refl _ _).alloc (Nat.le_refl _) _
  refine ⟨_, _, ?_, hC.below hb, gr_below hC.mm.lt hb, hT (.slice (some ⟨W.heap.size, 0, none⟩) q q) _ ⟨W.heap.size, q, rfl, by have := hC.mm.lt; omega, Nat.le_refl _, hrow⟩⟩
  simp only [execOp, hop, Act.eval, hs, Sem.run_bind, hr, Result.andThen_ok, Sem.run_pure]
  rfl
theorem call_write {R : Ending → World → Prop} {y1 y2 y3 : Value} (hC : Cl w0 m ga b3 c2 c3 bb q A2 G2 W) (e1 : y1 = .pointer (some ⟨m, 0, none⟩)) (e2 : y2 = .int .u64 (1000 + (q : Int))) (e3 : (As.wrow b3 c3 (g3 G2 q) 1 1 (fun _ => bits .xor .u8 (G2 q) 1)).φ y3 W) (hq : q < 57)
    (hR : ∀ v w', Cl w0 m ga b3 c2 c3 bb q A2 G2 w' → GR b3 c3 (g3 G2 q) W w' → (As.done b3 c3 (g3 G2 q) (.int .i64 0)).φ v w' → R (.returned v) w') : Calls Try.prog 24 #[y1, y2, y3] W R := by
  subst e1 e2
  obtain ⟨b, N, rfl, hbn, hN, hrow⟩ := e3
  have hsrc : IsRow W W.heap.size 1 (some ⟨b, 0, none⟩) 1 (fun j => .int .u8 ((fun _ => bits .xor .u8 (G2 q) 1) j)) := IsRow.of_rowIs (c := 1) hrow (by omega)
  have key : ∀ F : Nat → Value, W.rowIs b3 5 c3 F → (∀ j, wrF F q 1 (fun _ => bits .xor .u8 (G2 q) 1) j = .int .u8 (g3 G2 q j)) → Calls Try.prog 24 #[.pointer (some ⟨m, 0, none⟩), .int .u64 (1000 + (q : Int)), .slice (some ⟨b, 0, none⟩) 1 1] W R := fun F hF hw => by
    refine (write64 q 1 1 (some ⟨b, 0, none⟩) F _ hC.mm hF hsrc (by decide) (by omega)).mono ?_
    rintro e w' ⟨rfl, hr, hg⟩
    have hz := hr.congr fun j _ => hw j
    refine hR _ _ ⟨hC.bel.grown hg hC.bel.size (fun b e => by cases e; exact hC.lo), hC.mm.only hg, .inr hz, hC.rbb.of_block (hg.block bb hC.rbb.lt (fun e => hC.ne (Option.some.inj e))), hC.ne, hC.lo⟩ ⟨hg, fun _ => hz⟩ ⟨rfl, hz⟩
  rcases hC.now with h | h
  · exact key _ h (fun j => by unfold wrF g3; split <;> rfl)
  · exact key _ h (fun j => by
      unfold wrF g3
      by_cases hj : q ≤ j ∧ j < q + 1
      · rw [if_pos hj, if_pos hj]
      · rw [if_neg hj, if_neg hj]
        show Value.int .u8 (if q ≤ j ∧ j < q + 1 then _ else _) = _
        rw [if_neg hj])
theorem call_image {R : Ending → World → Prop} {y1 : Value} (hC : Cl w0 m ga b3 c2 c3 bb q A2 G2 W) (e1 : y1 = .pointer (some ⟨m, 0, none⟩)) (hz : W.rowIs b3 5 c3 (fun j => .int .u8 (g3 G2 q j)))
    (hR : ∀ v w', Cl w0 m ga b3 c2 c3 bb q A2 G2 w' → GR b3 c3 (g3 G2 q) W w' → (As.wrow b3 c3 (g3 G2 q) 64 64 (g3 G2 q)).φ v w' → R (.returned v) w') : Calls Try.prog 29 #[y1] W R := by
  subst e1
  refine (image64 (g3 G2 q) hC.mm hz).mono ?_
  rintro e w' ⟨b, rfl, hlo, hr, hb⟩
  exact hR _ _ (hC.below hb) (gr_below hC.mm.lt hb) ⟨b, 64, rfl, by have := hC.mm.lt; omega, Nat.le_refl _, hr⟩
theorem val_cut {s k : Nat} {Tv : Value → World → Prop} (e1 : (As.wrow b3 c3 (g3 G2 q) 64 64 (g3 G2 q)).φ (a.tmps.getD s undef) W) (e2 : a.tmps.getD k undef = .int .u64 (q : Int)) (hq : q < 57) (hop : o.op = .slice 37 (.tmp s) none (some (.tmp k)) none)
    (hT : ∀ v, (As.wrow b3 c3 (g3 G2 q) q 64 (g3 G2 q)).φ v W → Tv v W) : ∃ v, (execOp a.eval o).run Try.prog W = .ok (.value v) W ∧ Tv v W := by
  obtain ⟨b, N, hs, hbn, hN, hrow⟩ := e1
  have hB : 0 ≤ (q : Int) ∧ (q : Int) ≤ 64 := by omega
  have hu := Try.underlying37
  refine ⟨.slice (some ⟨b, 0, none⟩) q 64, ?_, hT _ ⟨b, N, rfl, hbn, by omega, hrow⟩⟩
  simp only [execOp, hop, Act.eval, hs, e2, Option.map_some, Option.map_none]
  simp [go_sem, hB, show q ≤ 64 from by omega]
theorem val_str {s n cap : Nat} {f : Nat → Int} (e1 : (As.wrow b3 c3 (g3 G2 q) n cap f).φ (a.tmps.getD s undef) W) (hn : n ≤ 64) (hf : ∀ j, j < n → f j = 0) (hop : o.op = .convert 37 9 (.tmp s)) : (execOp a.eval o).run Try.prog W = .ok (.value (.string (zstr n))) W := by
  obtain ⟨b, N, hs, hbn, hN, hrow⟩ := e1
  have := run_convert_bytes_back (P := Try.prog) W 37 9 5 ⟨b, 0, none⟩ cap ((List.range n).map fun _ => UInt8.ofNat 0) Try.underlying37 Try.underlying5 Try.underlying9 (fun j hj => by
    have hj' : j < n := by simpa using hj
    have e : (⟨b, 0, none⟩ : Addr).add j = ⟨b, j, none⟩ := by unfold Addr.add; split <;> simp_all
    rw [e, hrow.cell (by omega), hf j hj']
    simp)
  simp only [List.length_map, List.length_range] at this
  simp only [execOp, hop, Act.eval, hs, Sem.run_bind, this, Result.andThen_ok, Sem.run_pure]
  rfl
end

set_option maxRecDepth 100000 in
set_option maxHeartbeats 20000000 in
theorem obs (w : World) (m ga b3 c2 c3 bb q : Nat) (A2 : Option Addr) (G2 : Nat → Int) (hq : q < 57) (hz0 : ∀ j, j < q → G2 j = 0) (hk1 : IntKind.u64.wrap (1000 + (q : Int) - 1000) = (q : Int)) (T : Nat → Value → World → Prop)
    (h8 : ∀ v_ w_, T 8 v_ w_ = (v_ = (.bool true : Value))) (h9 : ∀ v_ w_, T 9 v_ w_ = (v_ = (.pointer (some ⟨m, 0, none⟩) : Value))) (h11 : ∀ v_ w_, T 11 v_ w_ = (v_ = (.int .u64 (1000 + (q : Int)) : Value))) (h19 : ∀ v_ w_, T 19 v_ w_ = (v_ = (.slice (some ⟨bb, 0, none⟩) 8 8 : Value))) (h140 : ∀ v_ w_, T 140 v_ w_ = (v_ = (.pointer (some ⟨m, 0, none⟩) : Value))) (h141 : ∀ v_ w_, T 141 v_ w_ = (v_ = (.int .u64 (1000 + (q : Int)) : Value))) (h142 : ∀ v_ w_, T 142 v_ w_ = (v_ = (.slice (some ⟨bb, 0, none⟩) 8 8 : Value))) (h143 : ∀ v_ w_, T 143 v_ w_ = (v_ = (.pointer (some ⟨bb, 0, none⟩) : Value))) (h144 : ∀ v_ w_, T 144 v_ w_ = (v_ = (.int .u8 (G2 q) : Value))) (h145 : ∀ v_ w_, T 145 v_ w_ = (v_ = (.int .u8 (bits .xor .u8 (G2 q) 1) : Value))) (h146 : ∀ v_ w_, T 146 v_ w_ = (AsrtG.As.wrow b3 c3 (g3 G2 q) 1 1 (fun _ => bits .xor .u8 (G2 q) 1)).φ v_ w_) (h147 : ∀ v_ w_, T 147 v_ w_ = (AsrtG.As.done b3 c3 (g3 G2 q) (.int .i64 0)).φ v_ w_) (h148 : ∀ v_ w_, T 148 v_ w_ = (AsrtG.As.done b3 c3 (g3 G2 q) (.bool true)).φ v_ w_) (h149 : ∀ v_ w_, T 149 v_ w_ = (AsrtG.As.done b3 c3 (g3 G2 q) (.bool true)).φ v_ w_) (h150 : ∀ v_ w_, T 150 v_ w_ = (v_ = (.pointer (some ⟨m, 0, none⟩) : Value))) (h151 : ∀ v_ w_, T 151 v_ w_ = (AsrtG.As.wrow b3 c3 (g3 G2 q) 64 64 (g3 G2 q)).φ v_ w_) (h152 : ∀ v_ w_, T 152 v_ w_ = (v_ = (.int .u64 (1000 + (q : Int)) : Value))) (h153 : ∀ v_ w_, T 153 v_ w_ = (v_ = (.int .u64 (q : Int) : Value))) (h154 : ∀ v_ w_, T 154 v_ w_ = (AsrtG.As.wrow b3 c3 (g3 G2 q) q 64 (g3 G2 q)).φ v_ w_) (h155 : ∀ v_ w_, T 155 v_ w_ = (v_ = (.string (zstr q) : Value))) (h156 : ∀ v_ w_, T 156 v_ w_ = (v_ = (.int .u64 (1000 + (q : Int)) : Value))) (h157 : ∀ v_ w_, T 157 v_ w_ = (v_ = (.int .u64 (q : Int) : Value))) (h158 : ∀ v_ w_, T 158 v_ w_ = (AsrtG.As.wrow b3 c3 (g3 G2 q) q q (fun _ => 0)).φ v_ w_) (h159 : ∀ v_ w_, T 159 v_ w_ = (v_ = (.string (zstr q) : Value))) (h160 : ∀ v_ w_, T 160 v_ w_ = (v_ = (.bool true : Value))) (h161 : ∀ v_ w_, T 161 v_ w_ = (v_ = (.bool true : Value))) :
    AllAt (GR b3 c3 (g3 G2 q)) Try.prog OPS (Cl w m ga b3 c2 c3 bb q A2 G2) T [0, 1, 2, 3, 4, 5, 6, 7, 8, 9, 10, 11, 12, 13, 14, 15, 16, 17, 18, 19, 20, 21, 22] := by
  refine ⟨(AsrtG.ob_move gr_refl (s := 9) (d0 := 140) (AsrtG.yes_plain (by kernel_rfl)) (by kernel_rfl) (by kernel_rfl) (fun v w h => (h140 v w).mpr ((h9 v w).mp h))), ?_⟩
  refine ⟨(AsrtG.ob_move gr_refl (s := 11) (d0 := 141) (AsrtG.yes_plain (by kernel_rfl)) (by kernel_rfl) (by kernel_rfl) (fun v w h => (h141 v w).mpr ((h11 v w).mp h))), ?_⟩
  refine ⟨(AsrtG.ob_move gr_refl (s := 19) (d0 := 142) (AsrtG.yes_plain (by kernel_rfl)) (by kernel_rfl) (by kernel_rfl) (fun v w h => (h142 v w).mpr ((h19 v w).mp h))), ?_⟩
  refine ⟨(AsrtG.ob_val gr_refl (d0 := 143) (AsrtG.yes_plain (by kernel_rfl)) (by kernel_rfl) (fun a_ W_ hC hT => by have e142 := (h142 _ _).mp (hT 142 (by kernel_rfl)); have hop : (OPS.getD 3 default).op = .indexAddr 37 (.tmp 142) (.const (.int .i64 0)) := (by kernel_rfl); refine ⟨.pointer (some ⟨bb, 0, none⟩), ?_, (h143 _ _).mpr rfl⟩; simp only [execOp, hop, Act.eval, e142]; simp [go_sem])), ?_⟩
  refine ⟨(AsrtG.ob_val gr_refl (d0 := 144) (AsrtG.yes_plain (by kernel_rfl)) (by kernel_rfl) (fun a_ W_ hC hT => by have e143 := (h143 _ _).mp (hT 143 (by kernel_rfl)); have hop : (OPS.getD 4 default).op = .load 5 (.tmp 143) := (by kernel_rfl); have c0 := hC.rbb.cell (i := 0) (by decide); refine ⟨.int .u8 (G2 q), ?_, (h144 _ _).mpr rfl⟩; rw [Nat.add_zero] at c0; simp only [execOp, hop, Act.eval, e143]; simp [go_sem, c0])), ?_⟩
  refine ⟨(AsrtG.ob_val gr_refl (d0 := 145) (AsrtG.yes_plain (by kernel_rfl)) (by kernel_rfl) (fun a_ W_ hC hT => by have e144 := (h144 _ _).mp (hT 144 (by kernel_rfl)); have hop : (OPS.getD 5 default).op = .binOp .xor 5 (.tmp 144) (.const (.int .u8 1)) 5 := (by kernel_rfl); refine ⟨.int .u8 (bits .xor .u8 (G2 q) 1), ?_, (h145 _ _).mpr rfl⟩; simp only [execOp, hop, Act.eval, e144]; simp [go_sem])), ?_⟩
  refine ⟨(AsrtG.ob_mem (d0 := 146) (AsrtG.yes_plain (by kernel_rfl)) (by kernel_rfl) (fun a_ W_ hC hT => by have e145 := (h145 _ _).mp (hT 145 (by kernel_rfl)); have hop : (OPS.getD 6 default).op = .buildSlice 37 1 #[(0, (.tmp 145))] := (by kernel_rfl); exact mem_build hC e145 hop (fun v w h => (h146 v w).mpr h))), ?_⟩
  refine ⟨(AsrtG.ob_call (d0 := 147) (f := 24) (xs := #[(.tmp 140), (.tmp 141), (.tmp 146)]) (ts := #[28, 26, 37]) (AsrtG.yes_plain (by kernel_rfl)) (by kernel_rfl) (enters_of Try.func24 (by kernel_rfl) rfl) (by kernel_rfl) (fun a_ W_ hC hT => by have e140 := (h140 _ _).mp (hT 140 (by kernel_rfl)); have e141 := (h141 _ _).mp (hT 141 (by kernel_rfl)); have e146 := (h146 _ _).mp (hT 146 (by kernel_rfl)); show Calls Try.prog 24 #[a_.tmps.getD 140 undef, a_.tmps.getD 141 undef, a_.tmps.getD 146 undef] W_ _; exact call_write hC e140 e141 e146 hq (fun v w' k1 k2 k3 => ⟨v, rfl, k1, k2, (h147 _ _).mpr k3⟩))), ?_⟩
  refine ⟨(AsrtG.ob_val gr_refl (d0 := 148) (AsrtG.yes_plain (by kernel_rfl)) (by kernel_rfl) (fun a_ W_ hC hT => by have e147 := (h147 _ _).mp (hT 147 (by kernel_rfl)); have hop : (OPS.getD 8 default).op = .binOp .eql 29 (.tmp 147) (.const (.int .i64 0)) 29 := (by kernel_rfl); obtain ⟨e147, hz⟩ := e147; refine ⟨.bool true, ?_, (h148 _ _).mpr ⟨rfl, hz⟩⟩; simp only [execOp, hop, Act.eval, e147]; simp [go_sem])), ?_⟩
  refine ⟨(AsrtG.ob_move gr_refl (s := 148) (d0 := 149) (AsrtG.yes_plain (by kernel_rfl)) (by kernel_rfl) (by kernel_rfl) (fun v w h => (h149 v w).mpr ((h148 v w).mp h))), ?_⟩
  refine ⟨(AsrtG.ob_move gr_refl (s := 9) (d0 := 150) (AsrtG.yes_guard 9 149 true (by kernel_rfl) (by kernel_rfl) (fun v w h => ((h149 v w).mp h).1)) (by kernel_rfl) (by kernel_rfl) (fun v w h => (h150 v w).mpr ((h9 v w).mp h))), ?_⟩
  refine ⟨(AsrtG.ob_call (d0 := 151) (f := 29) (xs := #[(.tmp 150)]) (ts := #[28]) (AsrtG.yes_guard 9 149 true (by kernel_rfl) (by kernel_rfl) (fun v w h => ((h149 v w).mp h).1)) (by kernel_rfl) (enters_of Try.func29 (by kernel_rfl) rfl) (by kernel_rfl) (fun a_ W_ hC hT => by have e150 := (h150 _ _).mp (hT 150 (by kernel_rfl)); show Calls Try.prog 29 #[a_.tmps.getD 150 undef] W_ _; have hz := (h149 _ _).mp (hT 149 (by kernel_rfl)); exact call_image hC e150 hz.2 (fun v w' k1 k2 k3 => ⟨v, rfl, k1, k2, (h151 _ _).mpr k3⟩))), ?_⟩
  refine ⟨(AsrtG.ob_move gr_refl (s := 11) (d0 := 152) (AsrtG.yes_guard 9 149 true (by kernel_rfl) (by kernel_rfl) (fun v w h => ((h149 v w).mp h).1)) (by kernel_rfl) (by kernel_rfl) (fun v w h => (h152 v w).mpr ((h11 v w).mp h))), ?_⟩
  refine ⟨(AsrtG.ob_val gr_refl (d0 := 153) (AsrtG.yes_guard 9 149 true (by kernel_rfl) (by kernel_rfl) (fun v w h => ((h149 v w).mp h).1)) (by kernel_rfl) (fun a_ W_ hC hT => by have e152 := (h152 _ _).mp (hT 152 (by kernel_rfl)); have hop : (OPS.getD 13 default).op = .binOp .sub 26 (.tmp 152) (.const (.int .u64 1000)) 26 := (by kernel_rfl); refine ⟨.int .u64 (q : Int), ?_, (h153 _ _).mpr rfl⟩; simp only [execOp, hop, Act.eval, e152]; simp [go_sem, hk1])), ?_⟩
  refine ⟨(AsrtG.ob_val gr_refl (d0 := 154) (AsrtG.yes_guard 9 149 true (by kernel_rfl) (by kernel_rfl) (fun v w h => ((h149 v w).mp h).1)) (by kernel_rfl) (fun a_ W_ hC hT => by have e151 := (h151 _ _).mp (hT 151 (by kernel_rfl)); have e153 := (h153 _ _).mp (hT 153 (by kernel_rfl)); have hop : (OPS.getD 14 default).op = .slice 37 (.tmp 151) none (some (.tmp 153)) none := (by kernel_rfl); exact val_cut e151 e153 hq hop (fun v h => (h154 v _).mpr h))), ?_⟩
  refine ⟨(AsrtG.ob_val gr_refl (d0 := 155) (AsrtG.yes_guard 9 149 true (by kernel_rfl) (by kernel_rfl) (fun v w h => ((h149 v w).mp h).1)) (by kernel_rfl) (fun a_ W_ hC hT => by have e154 := (h154 _ _).mp (hT 154 (by kernel_rfl)); have hop : (OPS.getD 15 default).op = .convert 37 9 (.tmp 154) := (by kernel_rfl); exact ⟨_, val_str e154 (by omega) (fun j hj => by unfold g3; rw [if_neg (by omega)]; exact hz0 j hj) hop, (h155 _ _).mpr rfl⟩)), ?_⟩
  refine ⟨(AsrtG.ob_move gr_refl (s := 11) (d0 := 156) (AsrtG.yes_guard 9 149 true (by kernel_rfl) (by kernel_rfl) (fun v w h => ((h149 v w).mp h).1)) (by kernel_rfl) (by kernel_rfl) (fun v w h => (h156 v w).mpr ((h11 v w).mp h))), ?_⟩
  refine ⟨(AsrtG.ob_val gr_refl (d0 := 157) (AsrtG.yes_guard 9 149 true (by kernel_rfl) (by kernel_rfl) (fun v w h => ((h149 v w).mp h).1)) (by kernel_rfl) (fun a_ W_ hC hT => by have e156 := (h156 _ _).mp (hT 156 (by kernel_rfl)); have hop : (OPS.getD 17 default).op = .binOp .sub 26 (.tmp 156) (.const (.int .u64 1000)) 26 := (by kernel_rfl); refine ⟨.int .u64 (q : Int), ?_, (h157 _ _).mpr rfl⟩; simp only [execOp, hop, Act.eval, e156]; simp [go_sem, hk1])), ?_⟩
  refine ⟨(AsrtG.ob_mem (d0 := 158) (AsrtG.yes_guard 9 149 true (by kernel_rfl) (by kernel_rfl) (fun v w h => ((h149 v w).mp h).1)) (by kernel_rfl) (fun a_ W_ hC hT => by have e157 := (h157 _ _).mp (hT 157 (by kernel_rfl)); have hop : (OPS.getD 18 default).op = .makeSlice 37 (.tmp 157) (.tmp 157) := (by kernel_rfl); exact mem_make hC e157 hq hop (fun v w h => (h158 v w).mpr h))), ?_⟩
  refine ⟨(AsrtG.ob_val gr_refl (d0 := 159) (AsrtG.yes_guard 9 149 true (by kernel_rfl) (by kernel_rfl) (fun v w h => ((h149 v w).mp h).1)) (by kernel_rfl) (fun a_ W_ hC hT => by have e158 := (h158 _ _).mp (hT 158 (by kernel_rfl)); have hop : (OPS.getD 19 default).op = .convert 37 9 (.tmp 158) := (by kernel_rfl); exact ⟨_, val_str e158 (by omega) (fun j hj => rfl) hop, (h159 _ _).mpr rfl⟩)), ?_⟩
  refine ⟨(AsrtG.ob_val gr_refl (d0 := 160) (AsrtG.yes_guard 9 149 true (by kernel_rfl) (by kernel_rfl) (fun v w h => ((h149 v w).mp h).1)) (by kernel_rfl) (fun a_ W_ hC hT => by have e155 := (h155 _ _).mp (hT 155 (by kernel_rfl)); have e159 := (h159 _ _).mp (hT 159 (by kernel_rfl)); have hop : (OPS.getD 20 default).op = .binOp .eql 9 (.tmp 155) (.tmp 159) 9 := (by kernel_rfl); refine ⟨.bool true, ?_, (h160 _ _).mpr rfl⟩; simp only [execOp, hop, Act.eval, e155, e159]; simp [go_sem])), ?_⟩
  refine ⟨(AsrtG.ob_val gr_refl (d0 := 161) (AsrtG.yes_plain (by kernel_rfl)) (by kernel_rfl) (fun a_ W_ hC hT => by have e149 := (h149 _ _).mp (hT 149 (by kernel_rfl)); have e160 := (h160 _ _).mp (hT 160 (by kernel_rfl)); have hop : (OPS.getD 21 default).op = .pick (.tmp 149) (.tmp 160) (.const (Value.bool false)) := (by kernel_rfl); have e149 := e149.1; refine ⟨.bool true, ?_, (h161 _ _).mpr rfl⟩; simp only [execOp, hop, Act.eval, e149, e160]; simp [go_sem])), ?_⟩
  refine ⟨(AsrtG.ob_assign gr_refl (s := 161) (d0 := 8) (AsrtG.yes_plain (by kernel_rfl)) (by kernel_rfl) (by kernel_rfl) (fun v w h => (h8 v w).mpr ((h161 v w).mp h))), ?_⟩
  trivial
noncomputable def TL (m b3 c3 bb q : Nat) (G2 : Nat → Int) : List (Nat × As (GR b3 c3 (g3 G2 q))) := [(140, .is (.pointer (some ⟨m, 0, none⟩))), (141, .is (.int .u64 (1000 + (q : Int)))), (142, .is (.slice (some ⟨bb, 0, none⟩) 8 8)), (143, .is (.pointer (some ⟨bb, 0, none⟩))), (144, .is (.int .u8 (G2 q))), (145, .is (.int .u8 (bits .xor .u8 (G2 q) 1))), (146, .wrow b3 c3 (g3 G2 q) 1 1 (fun _ => bits .xor .u8 (G2 q) 1)), (147, .done b3 c3 (g3 G2 q) (.int .i64 0)), (148, .done b3 c3 (g3 G2 q) (.bool true)), (149, .done b3 c3 (g3 G2 q) (.bool true)), (150, .is (.pointer (some ⟨m, 0, none⟩))), (151, .wrow b3 c3 (g3 G2 q) 64 64 (g3 G2 q)), (152, .is (.int .u64 (1000 + (q : Int)))), (153, .is (.int .u64 (q : Int))), (154, .wrow b3 c3 (g3 G2 q) q 64 (g3 G2 q)), (155, .is (.string (zstr q))), (156, .is (.int .u64 (1000 + (q : Int)))), (157, .is (.int .u64 (q : Int))), (158, .wrow b3 c3 (g3 G2 q) q q (fun _ => 0)), (159, .is (.string (zstr q))), (160, .is (.bool true)), (161, .is (.bool true)), (8, .is (.bool true))]

end Go.Proofs.Ytkncaafjkoeijaa.GmWordsR
