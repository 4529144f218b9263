/- The law SegScatters: what was scattered is there, byte by byte; nothing else is changed. For every input; no condition. -/
import Derived.Test.YtohopmccggggbaaSgSeq
import Derived.Maps.Own
import Derived.Maps.Views
import Derived.Deep.DeepCutAuto
import Derived.Test.YtohopmccggggbaaAssert
import Derived.Shelf.Abstract
namespace Go.Proofs.Ytohopmccggggbaa.SegScattersR
open Go.ChangeShapes Go.WideShapes Go.ChangeAt Go.RowKit Rw Sg SgCheck SgTake SgTotal SgCut SgMath SgIn SgScat SgConcat SgJoin SgArgs SgGath SgOne SgSeq GmFind GmWord GmRead GmWrite GmLoad
set_option linter.unusedVariables false
set_option linter.unusedSimpArgs false

section
variable {w V W : World} {L : List (Nat × Nat × Value)} {R : Ending → World → Prop} {y : Value}
theorem asrt_image {m g1 b3 c1 c2 c3 : Nat} {A2 : Option Addr} {r : Rg} {G1 : Nat → Int} (hC : Lib.Held w V L W) (e : y = .pointer (some ⟨m, 0, none⟩)) (hM : Mm V m 1 g1 b3 A2 c1 c2 2000 c3 r) (hBy : By V b3 2000 G1) (hR : ∀ v w', (Asrt.As.row 5 2000 (fun j => .int .u8 (G1 j))).φ v w' → Lib.Held w V L w' → Below W.heap.size W w' → R (.returned v) w') :
    Calls Try.prog 33 #[y] W R := by
  subst e
  have hMW := hM.below hC.2.1
  have hByW : By W b3 2000 G1 := fun j hj => (hC.2.1.cell (p := ⟨b3, j, none⟩) hM.lt).trans (hBy j hj)
  exact (image_any m 2000 c3 (some ⟨b3, 0, none⟩) G1 W (by decide) hMW.mem.self hMW.mem.bys (by_row hByW hMW.lt)).mono fun e w' ⟨b, he, _, hr, hb⟩ => by subst he; exact hR _ _ ⟨b, rfl, hr⟩ (hC.step hb) hb
theorem asrt_strL {o : Oper} {a : Act} {s n c : Nat} {A : Option Addr} {ns : List Int} (hs : a.tmps.getD s undef = .slice A n c) (hn : ns.length = n) (hg : IsBytes ns) (hr : IsRow W W.heap.size 1 A n (fun j => .int .u8 (ns.getD j 0))) (hop : o.op = .convert 37 9 (.tmp s)) :
    (execOp a.eval o).run Try.prog W = .ok (.value (.string (strL ns))) W := by
  have := run_strL (c := c) Try.underlying37 Try.underlying5 Try.underlying9 hn hg hr
  simp only [execOp, hop, Act.eval, hs, Sem.run_bind, this, Result.andThen_ok, Sem.run_pure]
theorem asrt_len {o : Oper} {a : Act} {s n c : Nat} {A : Option Addr} (hs : a.tmps.getD s undef = .slice A n c) (hop : o.op = .call { callee := .builtin .len, args := #[.tmp s], argTypes := #[37] }) :
    (execOp a.eval o).run Try.prog W = .ok (.value (.int .i64 (n : Int))) W := by
  simp only [Array.getD_eq_getD_getElem?] at hs
  simp [execOp, hop, resolve, invoke, builtin, Act.eval, go_sem, hs]
theorem asrt_len2 {o : Oper} {a : Act} {s n c : Nat} {A : Option Addr} (hs : a.tmps.getD s undef = .slice A n c) (hop : o.op = .call { callee := .builtin .len, args := #[.tmp s], argTypes := #[120] }) :
    (execOp a.eval o).run Try.prog W = .ok (.value (.int .i64 (n : Int))) W := by
  simp only [Array.getD_eq_getD_getElem?] at hs
  simp [execOp, hop, resolve, invoke, builtin, Act.eval, go_sem, hs]
theorem asrt_cut {o : Oper} {a : Act} {s q n c Z : Nat} {A : Option Addr} (hs : a.tmps.getD s undef = .slice A n c) (hq : a.tmps.getD q undef = .int .i64 (Z : Int)) (hZ : Z ≤ c) (hop : o.op = .slice 37 (.tmp s) none (some (.tmp q)) none) :
    (execOp a.eval o).run Try.prog W = .ok (.value (.slice A Z c)) W := by
  have hB : 0 ≤ (Z : Int) ∧ (Z : Int) ≤ c := by omega
  have hu := Try.underlying37
  simp only [execOp, hop, Act.eval, hs, hq, Option.map_some, Option.map_none]
  cases A <;> simp [go_sem, hB, hZ]
end

noncomputable def OPS : Array Oper := Asrt.opsOf Try.f11 41

set_option maxRecDepth 100000 in
set_option maxHeartbeats 20000000 in
theorem obs {m g1 b3 c1 c2 c3 B PL c16 N cb C Z : Nat} {A2 A16 AP AB : Option Addr} {r : Rg} {G1 : Nat → Int} {zs : List Int} {w V : World} (hM : Mm V m 1 g1 b3 A2 c1 c2 2000 c3 r) (hBy : By V b3 2000 G1) (hGb : IsBytes (listOf G1 2000))
    (K0 : IsRow V V.heap.size 1 (some ⟨B, 0, none⟩) 2000 (fun j => .int .u8 ((listOf G1 2000).getD j 0))) (K1 : IsRow V V.heap.size 1 A16 Z (fun j => .int .u8 ((zs.take Z).getD j 0))) (K2 : IsRow V V.heap.size 1 AB Z (fun j => .int .u8 ((zs.take Z).getD j 0)))
    (hzl : (zs.take Z).length = Z) (hzb : IsBytes (zs.take Z)) (hZ1 : Z ≤ c16) (hZ2 : Z ≤ cb) (T : Nat → Value → World → Prop)
    (h1 : ∀ v_ w_, T 1 v_ w_ = (v_ = (.slice AB N cb : Value))) (h6 : ∀ v_ w_, T 6 v_ w_ = (v_ = (.bool true : Value))) (h7 : ∀ v_ w_, T 7 v_ w_ = (v_ = (.pointer (some ⟨m, 0, none⟩) : Value))) (h9 : ∀ v_ w_, T 9 v_ w_ = (v_ = (.slice (some ⟨B, 0, none⟩) 2000 2000 : Value))) (h12 : ∀ v_ w_, T 12 v_ w_ = (v_ = (.slice AP PL C : Value))) (h16 : ∀ v_ w_, T 16 v_ w_ = (v_ = (.int .i64 (Z : Int) : Value))) (h20 : ∀ v_ w_, T 20 v_ w_ = (v_ = (.slice A16 PL c16 : Value))) (h21 : ∀ v_ w_, T 21 v_ w_ = (v_ = (.int .i64 0 : Value))) (h158 : ∀ v_ w_, T 158 v_ w_ = (v_ = (.int .i64 0 : Value))) (h159 : ∀ v_ w_, T 159 v_ w_ = (v_ = (.bool true : Value))) (h160 : ∀ v_ w_, T 160 v_ w_ = (v_ = (.bool true : Value))) (h161 : ∀ v_ w_, T 161 v_ w_ = (v_ = (.pointer (some ⟨m, 0, none⟩) : Value))) (h162 : ∀ v_ w_, T 162 v_ w_ = (Asrt.As.row 5 2000 (fun j => .int .u8 (G1 j))).φ v_ w_) (h163 : ∀ v_ w_, T 163 v_ w_ = (v_ = (.string (strL (listOf G1 2000)) : Value))) (h164 : ∀ v_ w_, T 164 v_ w_ = (v_ = (.slice (some ⟨B, 0, none⟩) 2000 2000 : Value))) (h165 : ∀ v_ w_, T 165 v_ w_ = (v_ = (.string (strL (listOf G1 2000)) : Value))) (h166 : ∀ v_ w_, T 166 v_ w_ = (v_ = (.bool true : Value))) (h167 : ∀ v_ w_, T 167 v_ w_ = (v_ = (.bool true : Value))) (h168 : ∀ v_ w_, T 168 v_ w_ = (v_ = (.bool true : Value))) (h169 : ∀ v_ w_, T 169 v_ w_ = (v_ = (.slice A16 PL c16 : Value))) (h170 : ∀ v_ w_, T 170 v_ w_ = (v_ = (.int .i64 (PL : Int) : Value))) (h171 : ∀ v_ w_, T 171 v_ w_ = (v_ = (.slice AP PL C : Value))) (h172 : ∀ v_ w_, T 172 v_ w_ = (v_ = (.int .i64 (PL : Int) : Value))) (h173 : ∀ v_ w_, T 173 v_ w_ = (v_ = (.bool true : Value))) (h174 : ∀ v_ w_, T 174 v_ w_ = (v_ = (.bool true : Value))) (h175 : ∀ v_ w_, T 175 v_ w_ = (v_ = (.bool true : Value))) (h176 : ∀ v_ w_, T 176 v_ w_ = (v_ = (.slice A16 PL c16 : Value))) (h177 : ∀ v_ w_, T 177 v_ w_ = (v_ = (.int .i64 (Z : Int) : Value))) (h178 : ∀ v_ w_, T 178 v_ w_ = (v_ = (.slice A16 Z c16 : Value))) (h179 : ∀ v_ w_, T 179 v_ w_ = (v_ = (.string (strL (zs.take Z)) : Value))) (h180 : ∀ v_ w_, T 180 v_ w_ = (v_ = (.slice AB N cb : Value))) (h181 : ∀ v_ w_, T 181 v_ w_ = (v_ = (.int .i64 (Z : Int) : Value))) (h182 : ∀ v_ w_, T 182 v_ w_ = (v_ = (.slice AB Z cb : Value))) (h183 : ∀ v_ w_, T 183 v_ w_ = (v_ = (.string (strL (zs.take Z)) : Value))) (h184 : ∀ v_ w_, T 184 v_ w_ = (v_ = (.bool true : Value))) (h185 : ∀ v_ w_, T 185 v_ w_ = (v_ = (.bool true : Value))) :
    Asrt.AllAt Try.prog OPS (Lib.Held w V []) T [0, 1, 2, 3, 4, 5, 6, 7, 8, 9, 10, 11, 12, 13, 14, 15, 16, 17, 18, 19, 20, 21, 22, 23, 24, 25, 26, 27, 28] := by
  refine ⟨(Asrt.ob_move (s := 21) (d0 := 158) (Asrt.yes_plain (by kernel_rfl)) (by kernel_rfl) (by kernel_rfl) (fun v w h => (h158 v w).mpr ((h21 v w).mp h))), ?_⟩
  refine ⟨(Asrt.ob_val (d0 := 159) (Asrt.yes_plain (by kernel_rfl)) (by kernel_rfl) (fun a_ W_ hC hT => by have e158 := (h158 _ _).mp (hT 158 (by kernel_rfl)); have hop : (OPS.getD 1 default).op = .binOp .eql 29 (.tmp 158) (.const (.int .i64 0)) 29 := (by kernel_rfl); refine ⟨.bool true, ?_, (h159 _ _).mpr rfl⟩; simp only [execOp, hop, Act.eval, e158]; simp [go_sem])), ?_⟩
  refine ⟨(Asrt.ob_move (s := 159) (d0 := 160) (Asrt.yes_plain (by kernel_rfl)) (by kernel_rfl) (by kernel_rfl) (fun v w h => (h160 v w).mpr ((h159 v w).mp h))), ?_⟩
  refine ⟨(Asrt.ob_move (s := 7) (d0 := 161) (Asrt.yes_guard 2 160 true (by kernel_rfl) (by kernel_rfl) (fun v w h => (h160 v w).mp h)) (by kernel_rfl) (by kernel_rfl) (fun v w h => (h161 v w).mpr ((h7 v w).mp h))), ?_⟩
  refine ⟨(Asrt.ob_call (d0 := 162) (f := 33) (xs := #[(.tmp 161)]) (ts := #[28]) (Asrt.yes_guard 2 160 true (by kernel_rfl) (by kernel_rfl) (fun v w h => (h160 v w).mp h)) (by kernel_rfl) (enters_of Try.func33 (by kernel_rfl) rfl) (by kernel_rfl) (fun a_ W_ hC hT => by have e161 := (h161 _ _).mp (hT 161 (by kernel_rfl)); show Calls Try.prog 33 #[a_.tmps.getD 161 undef] W_ _; exact asrt_image hC e161 hM hBy (fun v w' h1 h2 h3 => ⟨v, rfl, h2, h3, (h162 _ _).mpr h1⟩))), ?_⟩
  refine ⟨(Asrt.ob_val (d0 := 163) (Asrt.yes_guard 2 160 true (by kernel_rfl) (by kernel_rfl) (fun v w h => (h160 v w).mp h)) (by kernel_rfl) (fun a_ W_ hC hT => by have e162 := (h162 _ _).mp (hT 162 (by kernel_rfl)); have hop : (OPS.getD 5 default).op = .convert 37 9 (.tmp 162) := (by kernel_rfl); obtain ⟨b, hb, hrow⟩ := e162; exact ⟨_, asrt_strL hb (list_len _ _) hGb (image_row hrow) hop, (h163 _ _).mpr rfl⟩)), ?_⟩
  refine ⟨(Asrt.ob_move (s := 9) (d0 := 164) (Asrt.yes_guard 2 160 true (by kernel_rfl) (by kernel_rfl) (fun v w h => (h160 v w).mp h)) (by kernel_rfl) (by kernel_rfl) (fun v w h => (h164 v w).mpr ((h9 v w).mp h))), ?_⟩
  refine ⟨(Asrt.ob_val (d0 := 165) (Asrt.yes_guard 2 160 true (by kernel_rfl) (by kernel_rfl) (fun v w h => (h160 v w).mp h)) (by kernel_rfl) (fun a_ W_ hC hT => by have e164 := (h164 _ _).mp (hT 164 (by kernel_rfl)); have hop : (OPS.getD 7 default).op = .convert 37 9 (.tmp 164) := (by kernel_rfl); exact ⟨_, asrt_strL e164 (list_len _ _) hGb ((K0.below hC.2.1).more hC.2.1.size) hop, (h165 _ _).mpr rfl⟩)), ?_⟩
  refine ⟨(Asrt.ob_val (d0 := 166) (Asrt.yes_guard 2 160 true (by kernel_rfl) (by kernel_rfl) (fun v w h => (h160 v w).mp h)) (by kernel_rfl) (fun a_ W_ hC hT => by have e163 := (h163 _ _).mp (hT 163 (by kernel_rfl)); have e165 := (h165 _ _).mp (hT 165 (by kernel_rfl)); have hop : (OPS.getD 8 default).op = .binOp .eql 9 (.tmp 163) (.tmp 165) 9 := (by kernel_rfl); refine ⟨.bool true, ?_, (h166 _ _).mpr rfl⟩; simp only [execOp, hop, Act.eval, e163, e165]; simp [go_sem])), ?_⟩
  refine ⟨(Asrt.ob_val (d0 := 167) (Asrt.yes_plain (by kernel_rfl)) (by kernel_rfl) (fun a_ W_ hC hT => by have e160 := (h160 _ _).mp (hT 160 (by kernel_rfl)); have e166 := (h166 _ _).mp (hT 166 (by kernel_rfl)); have hop : (OPS.getD 9 default).op = .pick (.tmp 160) (.tmp 166) (.const (Value.bool false)) := (by kernel_rfl); refine ⟨.bool true, ?_, (h167 _ _).mpr rfl⟩; simp only [execOp, hop, Act.eval, e160, e166]; simp [go_sem])), ?_⟩
  refine ⟨(Asrt.ob_move (s := 167) (d0 := 168) (Asrt.yes_plain (by kernel_rfl)) (by kernel_rfl) (by kernel_rfl) (fun v w h => (h168 v w).mpr ((h167 v w).mp h))), ?_⟩
  refine ⟨(Asrt.ob_move (s := 20) (d0 := 169) (Asrt.yes_guard 10 168 true (by kernel_rfl) (by kernel_rfl) (fun v w h => (h168 v w).mp h)) (by kernel_rfl) (by kernel_rfl) (fun v w h => (h169 v w).mpr ((h20 v w).mp h))), ?_⟩
  refine ⟨(Asrt.ob_val (d0 := 170) (Asrt.yes_guard 10 168 true (by kernel_rfl) (by kernel_rfl) (fun v w h => (h168 v w).mp h)) (by kernel_rfl) (fun a_ W_ hC hT => by have e169 := (h169 _ _).mp (hT 169 (by kernel_rfl)); have hop : (OPS.getD 12 default).op = .call { callee := .builtin .len, args := #[(.tmp 169)], argTypes := #[37] } := (by kernel_rfl); exact ⟨_, asrt_len e169 hop, (h170 _ _).mpr rfl⟩)), ?_⟩
  refine ⟨(Asrt.ob_move (s := 12) (d0 := 171) (Asrt.yes_guard 10 168 true (by kernel_rfl) (by kernel_rfl) (fun v w h => (h168 v w).mp h)) (by kernel_rfl) (by kernel_rfl) (fun v w h => (h171 v w).mpr ((h12 v w).mp h))), ?_⟩
  refine ⟨(Asrt.ob_val (d0 := 172) (Asrt.yes_guard 10 168 true (by kernel_rfl) (by kernel_rfl) (fun v w h => (h168 v w).mp h)) (by kernel_rfl) (fun a_ W_ hC hT => by have e171 := (h171 _ _).mp (hT 171 (by kernel_rfl)); have hop : (OPS.getD 14 default).op = .call { callee := .builtin .len, args := #[(.tmp 171)], argTypes := #[120] } := (by kernel_rfl); exact ⟨_, asrt_len2 e171 hop, (h172 _ _).mpr rfl⟩)), ?_⟩
  refine ⟨(Asrt.ob_val (d0 := 173) (Asrt.yes_guard 10 168 true (by kernel_rfl) (by kernel_rfl) (fun v w h => (h168 v w).mp h)) (by kernel_rfl) (fun a_ W_ hC hT => by have e170 := (h170 _ _).mp (hT 170 (by kernel_rfl)); have e172 := (h172 _ _).mp (hT 172 (by kernel_rfl)); have hop : (OPS.getD 15 default).op = .binOp .eql 3 (.tmp 170) (.tmp 172) 3 := (by kernel_rfl); refine ⟨.bool true, ?_, (h173 _ _).mpr rfl⟩; simp only [execOp, hop, Act.eval, e170, e172]; simp [go_sem])), ?_⟩
  refine ⟨(Asrt.ob_val (d0 := 174) (Asrt.yes_plain (by kernel_rfl)) (by kernel_rfl) (fun a_ W_ hC hT => by have e168 := (h168 _ _).mp (hT 168 (by kernel_rfl)); have e173 := (h173 _ _).mp (hT 173 (by kernel_rfl)); have hop : (OPS.getD 16 default).op = .pick (.tmp 168) (.tmp 173) (.const (Value.bool false)) := (by kernel_rfl); refine ⟨.bool true, ?_, (h174 _ _).mpr rfl⟩; simp only [execOp, hop, Act.eval, e168, e173]; simp [go_sem])), ?_⟩
  refine ⟨(Asrt.ob_move (s := 174) (d0 := 175) (Asrt.yes_plain (by kernel_rfl)) (by kernel_rfl) (by kernel_rfl) (fun v w h => (h175 v w).mpr ((h174 v w).mp h))), ?_⟩
  refine ⟨(Asrt.ob_move (s := 20) (d0 := 176) (Asrt.yes_guard 17 175 true (by kernel_rfl) (by kernel_rfl) (fun v w h => (h175 v w).mp h)) (by kernel_rfl) (by kernel_rfl) (fun v w h => (h176 v w).mpr ((h20 v w).mp h))), ?_⟩
  refine ⟨(Asrt.ob_move (s := 16) (d0 := 177) (Asrt.yes_guard 17 175 true (by kernel_rfl) (by kernel_rfl) (fun v w h => (h175 v w).mp h)) (by kernel_rfl) (by kernel_rfl) (fun v w h => (h177 v w).mpr ((h16 v w).mp h))), ?_⟩
  refine ⟨(Asrt.ob_val (d0 := 178) (Asrt.yes_guard 17 175 true (by kernel_rfl) (by kernel_rfl) (fun v w h => (h175 v w).mp h)) (by kernel_rfl) (fun a_ W_ hC hT => by have e176 := (h176 _ _).mp (hT 176 (by kernel_rfl)); have e177 := (h177 _ _).mp (hT 177 (by kernel_rfl)); have hop : (OPS.getD 20 default).op = .slice 37 (.tmp 176) none (some (.tmp 177)) none := (by kernel_rfl); exact ⟨_, asrt_cut e176 e177 hZ1 hop, (h178 _ _).mpr rfl⟩)), ?_⟩
  refine ⟨(Asrt.ob_val (d0 := 179) (Asrt.yes_guard 17 175 true (by kernel_rfl) (by kernel_rfl) (fun v w h => (h175 v w).mp h)) (by kernel_rfl) (fun a_ W_ hC hT => by have e178 := (h178 _ _).mp (hT 178 (by kernel_rfl)); have hop : (OPS.getD 21 default).op = .convert 37 9 (.tmp 178) := (by kernel_rfl); exact ⟨_, asrt_strL e178 hzl hzb ((K1.below hC.2.1).more hC.2.1.size) hop, (h179 _ _).mpr rfl⟩)), ?_⟩
  refine ⟨(Asrt.ob_move (s := 1) (d0 := 180) (Asrt.yes_guard 17 175 true (by kernel_rfl) (by kernel_rfl) (fun v w h => (h175 v w).mp h)) (by kernel_rfl) (by kernel_rfl) (fun v w h => (h180 v w).mpr ((h1 v w).mp h))), ?_⟩
  refine ⟨(Asrt.ob_move (s := 16) (d0 := 181) (Asrt.yes_guard 17 175 true (by kernel_rfl) (by kernel_rfl) (fun v w h => (h175 v w).mp h)) (by kernel_rfl) (by kernel_rfl) (fun v w h => (h181 v w).mpr ((h16 v w).mp h))), ?_⟩
  refine ⟨(Asrt.ob_val (d0 := 182) (Asrt.yes_guard 17 175 true (by kernel_rfl) (by kernel_rfl) (fun v w h => (h175 v w).mp h)) (by kernel_rfl) (fun a_ W_ hC hT => by have e180 := (h180 _ _).mp (hT 180 (by kernel_rfl)); have e181 := (h181 _ _).mp (hT 181 (by kernel_rfl)); have hop : (OPS.getD 24 default).op = .slice 37 (.tmp 180) none (some (.tmp 181)) none := (by kernel_rfl); exact ⟨_, asrt_cut e180 e181 hZ2 hop, (h182 _ _).mpr rfl⟩)), ?_⟩
  refine ⟨(Asrt.ob_val (d0 := 183) (Asrt.yes_guard 17 175 true (by kernel_rfl) (by kernel_rfl) (fun v w h => (h175 v w).mp h)) (by kernel_rfl) (fun a_ W_ hC hT => by have e182 := (h182 _ _).mp (hT 182 (by kernel_rfl)); have hop : (OPS.getD 25 default).op = .convert 37 9 (.tmp 182) := (by kernel_rfl); exact ⟨_, asrt_strL e182 hzl hzb ((K2.below hC.2.1).more hC.2.1.size) hop, (h183 _ _).mpr rfl⟩)), ?_⟩
  refine ⟨(Asrt.ob_val (d0 := 184) (Asrt.yes_guard 17 175 true (by kernel_rfl) (by kernel_rfl) (fun v w h => (h175 v w).mp h)) (by kernel_rfl) (fun a_ W_ hC hT => by have e179 := (h179 _ _).mp (hT 179 (by kernel_rfl)); have e183 := (h183 _ _).mp (hT 183 (by kernel_rfl)); have hop : (OPS.getD 26 default).op = .binOp .eql 9 (.tmp 179) (.tmp 183) 9 := (by kernel_rfl); refine ⟨.bool true, ?_, (h184 _ _).mpr rfl⟩; simp only [execOp, hop, Act.eval, e179, e183]; simp [go_sem])), ?_⟩
  refine ⟨(Asrt.ob_val (d0 := 185) (Asrt.yes_plain (by kernel_rfl)) (by kernel_rfl) (fun a_ W_ hC hT => by have e175 := (h175 _ _).mp (hT 175 (by kernel_rfl)); have e184 := (h184 _ _).mp (hT 184 (by kernel_rfl)); have hop : (OPS.getD 27 default).op = .pick (.tmp 175) (.tmp 184) (.const (Value.bool false)) := (by kernel_rfl); refine ⟨.bool true, ?_, (h185 _ _).mpr rfl⟩; simp only [execOp, hop, Act.eval, e175, e184]; simp [go_sem])), ?_⟩
  refine ⟨(Asrt.ob_assign (s := 185) (d0 := 6) (Asrt.yes_plain (by kernel_rfl)) (by kernel_rfl) (by kernel_rfl) (fun v w h => (h6 v w).mpr ((h185 v w).mp h))), ?_⟩
  trivial

end Go.Proofs.Ytohopmccggggbaa.SegScattersR

namespace Go.Proofs.Ytohopmccggggbaa.SegScatters
open Go.ChangeShapes Go.WideShapes Go.ChangeAt Go.RowKit Go.BigFrame Rw Sg SgCheck SgTake SgTotal SgCut SgMath SgIn SgScat SgConcat SgJoin SgArgs SgGath SgOne SgSeq GmFind GmWord GmRead GmWrite GmLoad
set_option linter.unusedVariables false
set_option linter.unusedSimpArgs false

set_option maxRecDepth 100000 in
set_option maxHeartbeats 4000000 in
theorem walk_many (A : Option Addr) (c : Nat) (l : List S3) (v : Value) (q : Int) (w : World) (h : 100 < l.length) (h2 : l.length ≤ 9223372036854775807) : Calls Try.prog 11 #[.slice A l.length c, v, .int .u8 q] w (Lib.True1 w.heap.size w) := by
  unfold Lib.True1
  have hb0 : Below w.heap.size w w := Below.refl _ _
  have h1 : decide ((100 : Int) < (l.length : Int)) = true := decide_eq_true (by omega)
  clear h
  go_enter Try.func11, Try.ntmps11
  go_wp2_with fail
  refine (SgLives.lives_any _).mono ?_
  rintro eE W1 ⟨rfl, hg1⟩
  have hb1 : Below w.heap.size w W1 := (show Below w.heap.size w _ by go_grown).trans (hg1.mono (by first | omega | go_size))
  obtain ⟨hc1, hf1⟩ := bcell hg1
  have hs1 := hg1.size
  try simp only [World.size_alloc, World.size_setCell, World.size_drew] at hs1
  clear hg1 hc1 hf1
  go_wp2_with fail
  go_ret
  exact ⟨rfl, by go_grown⟩

set_option maxRecDepth 100000 in
set_option maxHeartbeats 4000000 in
theorem walk_long (A AB : Option Addr) (c n cb : Nat) (l : List S3) (q : Int) (w : World) (h : l.length ≤ 100) (hn : 20000 < n) (hn2 : n ≤ 9223372036854775807) : Calls Try.prog 11 #[.slice A l.length c, .slice AB n cb, .int .u8 q] w (Lib.True1 w.heap.size w) := by
  unfold Lib.True1
  have hb0 : Below w.heap.size w w := Below.refl _ _
  have h1 : decide ((100 : Int) < (l.length : Int)) = false := decide_eq_false (by omega)
  have h2 : decide ((20000 : Int) < (n : Int)) = true := decide_eq_true (by omega)
  clear hn
  go_enter Try.func11, Try.ntmps11
  go_wp2_with fail
  refine (SgLives.lives_any _).mono ?_
  rintro eE W1 ⟨rfl, hg1⟩
  have hb1 : Below w.heap.size w W1 := (show Below w.heap.size w _ by go_grown).trans (hg1.mono (by first | omega | go_size))
  obtain ⟨hc1, hf1⟩ := bcell hg1
  have hs1 := hg1.size
  try simp only [World.size_alloc, World.size_setCell, World.size_drew] at hs1
  clear hg1 hc1 hf1
  go_wp2_with fail
  go_ret
  exact ⟨rfl, by go_grown⟩

set_option maxRecDepth 100000 in
set_option maxHeartbeats 4000000 in
theorem walk_bad (A AB : Option Addr) (c n cb : Nat) (l : List S3) (q : Int) (w : World) (h : l.length ≤ 100) (hn : n ≤ 20000) (hraw : ∀ x ∈ l, x.Raw) (hl : Lst w w.heap.size A l) (hk : checkL l ≠ 0) : Calls Try.prog 11 #[.slice A l.length c, .slice AB n cb, .int .u8 q] w (Lib.True1 w.heap.size w) := by
  unfold Lib.True1
  have hb0 : Below w.heap.size w w := Below.refl _ _
  have h1 : decide ((100 : Int) < (l.length : Int)) = false := decide_eq_false (by omega)
  have h2 : decide ((20000 : Int) < (n : Int)) = false := decide_eq_false (by omega)
  have h3 : (checkL l == 0) = false := by simp [hk]
  have HL := Lib.hid hl
  have HW := Lib.hid hraw
  clear hl hraw hk hn
  go_enter Try.func11, Try.ntmps11
  go_wp2_with fail
  refine (SgLives.lives_any _).mono ?_
  rintro eE W1 ⟨rfl, hg1⟩
  have hb1 : Below w.heap.size w W1 := (show Below w.heap.size w _ by go_grown).trans (hg1.mono (by first | omega | go_size))
  obtain ⟨hc1, hf1⟩ := bcell hg1
  have hs1 := hg1.size
  try simp only [World.size_alloc, World.size_setCell, World.size_drew] at hs1
  clear hg1 hc1 hf1
  go_wp2_with fail
  refine (check_any A c l _ (by omega) HW.out (lon HL.out hb1)).mono ?_
  rintro eE W2 ⟨rfl, hg2⟩
  have hb2 : Below w.heap.size w W2 := (show Below w.heap.size w _ by go_grown).trans (hg2.mono (by first | omega | go_size))
  obtain ⟨hc2, hf2⟩ := bcell hg2
  have hs2 := hg2.size
  try simp only [World.size_alloc, World.size_setCell, World.size_drew] at hs2
  clear hg2 hc2 hf2
  go_wp2_with fail
  go_ret
  exact ⟨rfl, by go_grown⟩

/-! The set of addresses that were met. -/
theorem law : Maps.Keyed Try.prog 26 := Maps.int_keyed Try.underlying26
theorem zeroB (w : World) : (zeroValue 4).run Try.prog w = .ok (.bool false) w := by kernel_rfl
theorem bool_inv {P : Program} {e : TypeId} (he : P.underlying e = some .bool) {v : Value} {d : DataW Unit} {ps : List MemPlace} {x : Bool} (h : plainElem P e v = some (d, ps)) (hd : d = .lit (.bool x)) : v = .bool x := by
  unfold plainElem at h
  rw [he] at h
  subst hd
  cases v <;> simp_all
structure MapAt (w : World) (b : Nat) (vis : List Int) (D : DataW Unit) : Prop where
  own : w.ownsMap Try.prog 26 (plainElem Try.prog 4) b vis.length D
  map : Maps.IsMap D
  at_ : ∀ x : Int, D.atKey (.int .u64 x) (.lit (.bool false)) = .lit (.bool (decide (x ∈ vis)))
theorem MapAt.lookup {w : World} {b : Nat} {vis : List Int} {D : DataW Unit} {x : Int} {y : Bool} (h : MapAt w b vis D) (hx : (Lit.int .u64 x).wf = true) (hy : decide (x ∈ vis) = y) : (Instr.lookup 119 (.map (some b)) (.int .u64 x) false).run Try.prog w = .ok (.bool y) w := by
  obtain ⟨v, ps, h1, h2⟩ := h.own.lookup law Try.underlying119 (zeroB w) (plainElem_bool Try.underlying4 false) (Maps.keyOf_int_mk Try.underlying26 hx)
  rw [h.at_ x, hy] at h2
  rw [h1, bool_inv Try.underlying4 h2 rfl]
theorem MapAt.kept {w w' : World} {b : Nat} {vis : List Int} {D : DataW Unit} {row : Option Nat} (h : MapAt w b vis D) (hg : w.grownBy w' row) (hne : some b ≠ row) : MapAt w' b vis D := ⟨h.own.kept hg hne, h.map, h.at_⟩
theorem MapAt.put {w w' : World} {b : Nat} {vis : List Int} {D : DataW Unit} {x : Int} (h : MapAt w b vis D) (ho : w'.ownsMap Try.prog 26 (plainElem Try.prog 4) b (vis.length + 1) (D.put (.int .u64 x) (.lit (.bool true)))) : MapAt w' b (vis ++ [x]) (D.put (.int .u64 x) (.lit (.bool true))) := by
  refine ⟨by simpa using ho, h.map.put _ _, fun y => ?_⟩
  by_cases e : y = x
  · subst e
    rw [Maps.atKey_put_same h.map (by trivial)]
    simp
  · rw [Maps.atKey_put_other (by intro e'; injection e' with _ e'; exact e e'), h.at_ y]
    simp [e]
def u64s (ns : List Int) : List Value := ns.map (Value.int .u64)
theorem u64info : ∃ i, Try.prog.info? 26 = some i ∧ i.zero = some (.int .u64 0) ∧ i.size = 1 ∧ i.bytes = 8 := by
  have h : (Try.prog.info? 26).map (fun i => (i.size, i.bytes)) = some (1, 8) := by kernel_rfl
  have h2 : (Try.prog.info? 26).bind (fun i => i.zero) = some (.int .u64 0) := by kernel_rfl
  obtain ⟨i, hi, hs⟩ := Option.map_eq_some_iff.1 h
  rw [hi] at h2
  exact ⟨i, hi, h2, (Prod.mk.inj hs).1, (Prod.mk.inj hs).2⟩
/-- What is held while the addresses are gone through. -/
structure MetAt (W8 : World) (mb : Nat) (wr : World) (vis pl : List Int) (AP : Option Addr) (C : Nat) : Prop where
  map : ∃ D, MapAt wr mb vis D
  nod : vis.Nodup
  own : wr.ownsRow (mb + 1) 26 1 (.slice AP pl.length C) pl.length (u64s pl)
  bel : Below W8.heap.size W8 wr
  siz : mb + 1 ≤ wr.heap.size
/-- The first addresses of a segment. -/
def ks (a : Int) (k : Nat) : List Int := (List.range k).map fun j => a + (j : Nat)
theorem ks_succ (a : Int) (k : Nat) : ks a (k + 1) = ks a k ++ [a + (k : Nat)] := by unfold ks; rw [List.range_succ, List.map_append]; rfl
theorem addrs_succ {l : List S3} {i : Nat} (hi : i < l.length) : addrs (l.take (i + 1)) = addrs (l.take i) ++ addr (at_ l i) := by
  rw [List.take_add_one, List.getElem?_eq_getElem hi]
  show addrs (l.take i ++ [l[i]]) = _
  rw [addrs_append]
  unfold at_
  rw [List.getD_eq_getElem?_getD, List.getElem?_eq_getElem hi]
  show _ ++ (addr l[i] ++ []) = _
  rw [List.append_nil]
  rfl
theorem wad_succ {l : List S3} {i : Nat} (hi : i < l.length) : wad (l.take (i + 1)) = wad (l.take i) ++ (if (at_ l i).w = true then addr (at_ l i) else []) := by
  rw [List.take_add_one, List.getElem?_eq_getElem hi]
  show wad (l.take i ++ [l[i]]) = _
  rw [wad_append]
  unfold at_
  rw [List.getD_eq_getElem?_getD, List.getElem?_eq_getElem hi]
  show _ ++ ((if l[i].w = true then addr l[i] else []) ++ []) = _
  rw [List.append_nil]
  rfl

theorem rdd_cell (P : List S3) {j : Nat} (hj : j < P.length * 3) : cell (rdd P) j = if j % 3 = 2 then .bool false else cell P j := by
  have e : at_ (rdd P) (j / 3) = ⟨(at_ P (j / 3)).a, (at_ P (j / 3)).n, false⟩ := by
    have h : j / 3 < P.length := by omega
    unfold at_ rdd
    rw [List.getD_eq_getElem?_getD, List.getD_eq_getElem?_getD, List.getElem?_map, List.getElem?_eq_getElem h]
    rfl
  unfold cell
  rw [e]
  by_cases h0 : j % 3 = 0
  · rw [if_pos h0, if_neg (by omega), if_pos h0]
  · rw [if_neg h0]
    by_cases h1 : j % 3 = 1
    · rw [if_pos h1, if_neg (by omega), if_neg h0, if_pos h1]
    · rw [if_neg h1, if_pos (by omega)]
theorem setI_bytes (G : Nat → Int) (ps : List Int) (h : Nat → Int) (hG : ∀ j, 0 ≤ G j ∧ G j ≤ 255) (hh : ∀ j, 0 ≤ h j ∧ h j ≤ 255) : ∀ j, 0 ≤ setI G ps h j ∧ setI G ps h j ≤ 255 := by
  induction ps generalizing G h with
  | nil => exact hG
  | cons p ps ih =>
    refine ih _ _ (fun j => ?_) (fun j => hh (j + 1))
    unfold upd
    split
    · exact hh 0
    · exact hG j
theorem row_take {w : World} {B n Z : Nat} {A : Option Addr} {ns : List Int} (h : IsRow w B 1 A n (fun j => .int .u8 (ns.getD j 0))) (hZ : Z ≤ n) (hl : ns.length = n) : IsRow w B 1 A Z (fun j => .int .u8 ((ns.take Z).getD j 0)) := fun h0 => by
  obtain ⟨ad, e, hb, hc⟩ := h (by omega)
  refine ⟨ad, e, hb, fun j hj => ?_⟩
  rw [hc j (by omega)]
  have hj' : j < Z := by omega
  simp [List.getD_eq_getElem?_getD, List.getElem?_take, hj']
theorem wad_sub (l : List S3) : (wad l).length ≤ (addrs l).length := by
  induction l with
  | nil => exact Nat.le_refl _
  | cons x l ih =>
    show ((if x.w = true then addr x else []) ++ wad l).length ≤ (addr x ++ addrs l).length
    rw [List.length_append, List.length_append]
    split
    · omega
    · simp; omega
theorem addrs_le (l : List S3) (i : Nat) : (addrs (l.take i)).length ≤ (addrs l).length := by
  have h : addrs (l.take i) ++ addrs (l.drop i) = addrs l := by rw [← addrs_append, List.take_append_drop]
  rw [← h, List.length_append]
  omega
theorem wad_le (l : List S3) (i : Nat) : (wad (l.take i)).length ≤ (addrs l).length := Nat.le_trans (wad_sub _) (addrs_le l i)

/-- A memory of 2,000 bytes. -/
noncomputable def R2 : Rg := GmOne.oneM 0 ((2000 : Nat) : Int)

set_option maxRecDepth 100000 in
set_option maxHeartbeats 8000000 in
theorem walk_ok (A AB : Option Addr) (c cb : Nat) (l : List S3) (zs : List Int) (fill : Int) (w : World) (hl : Lst w w.heap.size A l) (hb : Buf l) (hz : zs.length ≤ 20000) (hzr : IsRow w w.heap.size 1 AB zs.length (fun j => .int .u8 (zs.getD j 0))) (hAB : AB = none → zs.length = 0 ∧ cb = 0) (hzc : zs.length ≤ cb) (hcm : cb ≤ maxLen) (hby : IsBytes zs) (hf : 0 ≤ fill ∧ fill ≤ 255) :
    Calls Try.prog 11 #[.slice A l.length c, .slice AB zs.length cb, .int .u8 fill] w (Lib.True1 w.heap.size w) := by
  unfold Lib.True1
  have hb0 : Below w.heap.size w w := Below.refl _ _
  have h1 : decide ((100 : Int) < (l.length : Int)) = false := decide_eq_false (by have := hb.len; omega)
  have hlen : l.length ≤ 64 := hb.len
  have hlz : l.length ≤ 1000000 := by omega
  have HB := Lib.hid hb
  have HL := Lib.hid hl
  have HZ := Lib.hid (And.intro hzr (And.intro hAB hby))
  obtain ⟨N, hN⟩ : ∃ N, zs.length = N := ⟨_, rfl⟩
  have HN := Lib.hid hN
  rw [hN] at hz hzc ⊢
  have h2 : decide ((20000 : Int) < (N : Int)) = false := decide_eq_false (by omega)
  clear hb hl hzr hAB hby hN
  go_enter Try.func11, Try.ntmps11
  go_wp2_with fail
  refine (SgLives.lives_any _).mono ?_
  rintro eE W1 ⟨rfl, hg1⟩
  have hb1 : Below w.heap.size w W1 := (show Below w.heap.size w _ by go_grown).trans (hg1.mono (by first | omega | go_size))
  obtain ⟨hc1, hf1⟩ := bcell hg1
  have hs1 := hg1.size
  try simp only [World.size_alloc, World.size_setCell, World.size_drew] at hs1
  clear hg1 hc1 hf1
  go_wp2_with fail
  have L1 := Lib.hid (show Lst W1 W1.heap.size A l from lon HL.out hb1)
  (with_reducible refine (check_is hlz HB.out.raw L1.out HB.out.check).mono ?_)
  rintro e W2 ⟨rfl, hg2⟩
  have hb2 : Below w.heap.size w W2 := (show Below w.heap.size w _ by go_grown).trans (hg2.mono (by first | omega | go_size))
  obtain ⟨hc2, hf2⟩ := bcell hg2
  have hs2 := hg2.size
  try simp only [World.size_alloc, World.size_setCell, World.size_drew] at hs2
  clear hg2 hc2 hf2
  go_wp2_with fail
  (with_reducible refine (new1 2000 W2.heap.size 1 _ (by decide) (by decide) (by go_cell) (by go_cell) (by go_size)).mono ?_)
  rintro e W3 ⟨m, g1, b3, c2, c3, A2, rfl, hM, hrow, hfr, hg3⟩
  have HM3 := Lib.hid hM
  have HR3 := Lib.hid hrow
  have hb3lt := hM.lt
  have hfr' : w.heap.size ≤ b3 := by rw [World.size_alloc] at hfr; omega
  clear hM hrow hfr
  have hb3 : Below w.heap.size w W3 := (show Below w.heap.size w _ by go_grown).trans (hg3.mono (by first | omega | go_size))
  obtain ⟨hc3, hf3⟩ := bcell hg3
  have hs3 := hg3.size
  try simp only [World.size_alloc, World.size_setCell, World.size_drew] at hs3
  clear hg3 hc3 hf3
  go_wp2_with fail
  have L3 := Lib.hid (show Lst W3 W3.heap.size A l from lon HL.out hb3)
  obtain ⟨al, hal⟩ : ∃ al, allIn (GmOne.oneM 0 ((2000 : Nat) : Int)) 1 l = al := ⟨_, rfl⟩
  cases al with
  | false =>
    have hin := inL_not HB.out.check hal
    have HI5 := Lib.hid hin
    clear hin hal
    (with_reducible refine (in_any A c l _ HM3.out hlz HB.out.raw L3.out).mono ?_)
    rw [HI5.out]
    rintro e W4 ⟨rfl, hg4⟩
    have hb4 : Below w.heap.size w W4 := hb3.trans (hg4.mono (by omega))
    clear hg4
    go_wp2_with fail
    go_ret
    exact ⟨rfl, hb4⟩
  | true =>
    have HAL := Lib.hid hal
    have HTOT := Lib.hid (show (addrs l).length ≤ 128000 from by
      have h1 := addrs_len l HB.out.val
      have h2 := sm_small hal
      have h3 : (l.length : Int) * (2000 : Nat) ≤ 64 * 2000 := by omega
      omega)
    have HIN := Lib.hid (inL_of HB.out hal)
    clear hal
    (with_reducible refine (in_any A c l _ HM3.out hlz HB.out.raw L3.out).mono ?_)
    rw [HIN.out]
    rintro e W4 ⟨rfl, hg4⟩
    have hb4 : Below w.heap.size w W4 := hb3.trans (hg4.mono (by omega))
    have hs4 := hg4.size
    have HM4 := Lib.hid (HM3.out.below hg4)
    have HA24 := Lib.hid (show m < W4.heap.size ∧ g1 < W4.heap.size ∧ b3 < W4.heap.size ∧ ∀ a, A2 = some a → a.block < W4.heap.size from ⟨HM4.out.mem.lt, HM4.out.mem.lt1, HM4.out.lt, fun a e => by obtain ⟨ad, e', hlt, _⟩ := HM4.out.mem.row2 (by decide); rw [e'] at e; cases e; exact hlt⟩)
    have HR4 := Lib.hid (HR3.out.of_block (hg4.block b3 HR3.out.lt))
    obtain ⟨i0, hi0, hz0, hs0, hby0⟩ := GmNew.u8info
    have HI0 := Lib.hid hi0
    have HI1 := Lib.hid hz0
    have HI2 := Lib.hid hs0
    have HI3 := Lib.hid hby0
    clear hg4 hi0 hz0 hs0 hby0
    go_wp2_with (at_make; refine wpList_make_row _ rfl _ _ 37 rfl 5 i0 (.int .u8 0) Try.underlying37 HI0.out HI1.out HI2.out rfl _ _ 2000 rfl rfl (by rw [HI3.out]; decide) (by decide) ?_)
    have hrow5 := World.rowIs_made W4 (.int .u8 0) 2000 5
    have hB5 : Below W4.heap.size W4 (W4.alloc (.cells (madeCells #[.int .u8 0] 2000) 5)) := (Below.refl _ _).alloc (Nat.le_refl _) _
    generalize W4.alloc (.cells (madeCells #[.int .u8 0] 2000) 5) = W5 at hrow5 hB5 ⊢
    obtain ⟨B, hB⟩ : ∃ B, W4.heap.size = B := ⟨_, rfl⟩
    rw [hB] at hrow5 hB5 ⊢
    have HR5 := Lib.hid hrow5
    have HB5 := Lib.hid hB5
    have hs5 := hB5.size
    have hBlt := hrow5.lt
    clear hrow5 hB5
    go_wp2_with fail
    go_loopw [10] (fun i wr => ∃ k : Nat, k ≤ 2000 ∧ i = .int .i64 k ∧ wr.rowIs B 5 2000 (fun j => .int .u8 (if j < k then fill else 0)) ∧ W5.grownBy wr (some B)) (fun i wr => 2000 - (intOf i).toNat)
    case atStart => exact ⟨0, by omega, rfl, HR5.out.congr (fun j _ => by rw [if_neg (by omega)]), GmNew.grown_refl _ _⟩
    case round =>
      obtain ⟨k, hk, rfl, hrow, hg⟩ := hrel
      by_cases hlt : k < 2000
      · have hc : wr.cell? ⟨B, k, none⟩ = some (.int .u8 (if k < k then fill else 0)) := hrow.cell hlt
        have hzz : wr.frozen? ⟨B, k, none⟩ = false := hrow.frozen _
        have HR := Lib.hid hrow
        have HG := Lib.hid hg
        clear hrow hg
        go_wp2
        go_roundw
        case rel => exact ⟨k + 1, by omega, by go_num, (HR.out.set k (.int .u8 fill)).congr (fun j _ => by
          by_cases e : j = k
          · rw [if_pos e, if_pos (by omega)]
          · rw [if_neg e]
            by_cases e2 : j < k
            · rw [if_pos e2, if_pos (by omega)]
            · rw [if_neg e2, if_neg (by omega)]), only_setCell HG.out (.inl rfl) _⟩
        case measure => simp [intOf]; omega
      · obtain rfl : k = 2000 := by omega
        have hsw := hg.size
        have hBB : Below W4.heap.size W4 wr := (hB ▸ HB5.out : Below W4.heap.size W4 W5).grown hg (by omega) (fun b e => by cases e; omega)
        have hbw : Below w.heap.size w wr := hb4.trans (hBB.mono (by omega))
        have HMw := Lib.hid (HM4.out.below hBB)
        have HRw := Lib.hid (HR4.out.of_block (hBB.block b3 HR4.out.lt))
        have hb3B : b3 < B := by have := HM4.out.lt; omega
        have HIm := Lib.hid hrow
        have HIr := Lib.hid (image_row hrow)
        have hBlw := hrow.lt
        obtain ⟨gi, hgi⟩ : ∃ gi : Nat → Int, (fun j => if j < 2000 then fill else 0) = gi := ⟨_, rfl⟩
        obtain ⟨z0, hz0⟩ : ∃ z0, listOf gi 2000 = z0 := ⟨_, rfl⟩
        have HGI := Lib.hid hgi
        have HZ0 := Lib.hid hz0
        have hz0l : z0.length = 2000 := by rw [← hz0, list_len]
        have HZL := Lib.hid hz0l
        rw [show (fun j => Value.int .u8 (if j < 2000 then fill else 0)) = (fun j => Value.int .u8 (gi j)) from by rw [← hgi]] at HIm
        rw [show listOf (fun j => if j < 2000 then fill else 0) 2000 = z0 from by rw [← hz0, ← hgi]] at HIr
        clear hrow hg hBB hgi hz0 hz0l HB5 HR5
        go_wp2_with fail
        (with_reducible refine (own_any (some ⟨B, 0, none⟩) 2000 2000 z0 _ HZL.out (by decide) HIr.out (fun e => by cases e)).mono ?_)
        rintro e W7 ⟨A7, c7, rfl, hown7, hg7⟩
        rw [HZL.out] at hown7 ⊢
        have HO7 := Lib.hid (own_row hown7)
        have HM7 := Lib.hid (HMw.out.below hg7)
        have HR7 := Lib.hid (HRw.out.of_block (hg7.block b3 HRw.out.lt))
        have HI7 := Lib.hid (HIm.out.of_block (hg7.block B hBlw))
        have hb7 : Below w.heap.size w W7 := hbw.trans (hg7.mono (by omega))
        have hs7 := hg7.size
        clear hown7 hg7
        go_wp2_with fail
        (with_reducible refine (write_one A7 2000 c7 5 (fun _ => .int .u8 0) (fun j => z0.getD j 0) W7 HM7.out HR7.out HO7.out.2 (Nat.le_refl _)).mono ?_)
        rintro e W8 ⟨rfl, hrow8, hg8⟩
        have hb8 : Below w.heap.size w W8 := hb7.grown hg8 (by omega) (fun b e => by cases e; exact hfr')
        have hs8 := hg8.size
        have HM8 := Lib.hid (HM7.out.only hg8)
        have HR8 := Lib.hid (show W8.rowIs b3 5 c3 (fun j => .int .u8 (z0.getD j 0)) from hrow8.congr fun j _ => wr0_eq z0 2000 HZL.out j)
        have HI8 := Lib.hid (HI7.out.of_block (hg8.block B HI7.out.lt (by intro e; cases e; omega)))
        have L8 := Lib.hid (show Lst W8 W8.heap.size A l from (IsRow.below HL.out hb8).more (by omega))
        have HZ8 := Lib.hid (show IsRow W8 W8.heap.size 1 AB N (fun j => .int .u8 (zs.getD j 0)) from (IsRow.below (HN.out ▸ HZ.out.1) hb8).more (by omega))
        clear hrow8 hg8
        have hmm := @run_makeMap Try.prog
        go_wp2_with fail
        have hMet0 : MetAt W8 W8.heap.size (W8.alloc (.map #[] 0)) [] [] none 0 :=
          ⟨⟨.map [], World.ownsMap_made W8 Try.prog 26 (plainElem Try.prog 4), Maps.isMap_empty, fun x => rfl⟩, List.nodup_nil, ⟨rfl, .inl ⟨rfl, rfl⟩⟩, (Below.refl _ _).alloc (Nat.le_refl _) _, by simp⟩
        generalize W8.alloc (.map #[] 0) = W9 at hMet0 ⊢
        obtain ⟨mb, hmb⟩ : ∃ mb, W8.heap.size = mb := ⟨_, rfl⟩
        obtain ⟨LN, hLN⟩ : ∃ LN, l.length = LN := ⟨_, rfl⟩
        have HLN := Lib.hid hLN
        rw [hmb] at hMet0 ⊢
        rw [hLN] at hlen hlz ⊢
        obtain ⟨iu, hiu, hzu, hsu, hbu⟩ := u64info
        have HU0 := Lib.hid hiu
        have HU1 := Lib.hid hzu
        have HU2 := Lib.hid hsu
        have HU3 := Lib.hid hbu
        have HMet0 := Lib.hid hMet0
        clear hiu hzu hsu hbu hmm hMet0 hLN
        go_loopw [12, 13] (fun p s wr => ∃ (i : Nat) (AP : Option Addr) (C : Nat) (vis pl : List Int), i ≤ LN ∧ vis = addrs (l.take i) ∧ pl = wad (l.take i) ∧ p = .slice AP pl.length C ∧ s = .int .i64 i ∧ MetAt W8 mb wr vis pl AP C) (fun p s wr => LN - (intOf s).toNat)
        case atStart => exact ⟨0, none, 0, [], [], by omega, rfl, rfl, rfl, rfl, HMet0.out⟩
        case round =>
          obtain ⟨i, AP, C, vis, pl, hi, hvis, hpl, rfl, rfl, hMet⟩ := hrel
          by_cases hil : i < LN
          · have hbel := hMet.bel
            have hsz := hMet.siz
            have hLw := Lib.hid (lon L8.out hbel)
            obtain ⟨ad, hA, had, _⟩ := el (k := i) hLw.out (by rw [HLN.out]; exact hil)
            subst hA
            have hmem := at_mem l (show i < l.length by rw [HLN.out]; exact hil)
            have hxi : (place (GmOne.oneM 0 ((2000 : Nat) : Int)) 1 (at_ l i).a (at_ l i).n).isSome = true := List.all_eq_true.1 HAL.out _ hmem
            obtain ⟨_, x0, x1, x2⟩ := place1 hxi
            have hav := addrs_succ (show i < l.length by rw [HLN.out]; exact hil)
            have hwv := wad_succ (show i < l.length by rw [HLN.out]; exact hil)
            have hel8 := el (k := i) L8.out (by rw [HLN.out]; exact hil)
            obtain ⟨x, hx⟩ : ∃ x, at_ l i = x := ⟨_, rfl⟩
            rw [hx] at hav hwv x0 x1 x2 hel8
            obtain ⟨ad8, e8, had8, q0, q1, q2⟩ := hel8
            cases e8
            obtain ⟨a, n, b⟩ := x
            simp only at x0 x1 x2 q0 q1 q2
            obtain ⟨X, rfl⟩ : ∃ X : Nat, n = (X : Int) := ⟨n.toNat, by omega⟩
            have hXb : X ≤ 2000 := by omega
            have hvl : vis.length + X ≤ 1000000 := by
              have h1 := congrArg List.length hav
              have h2 := addrs_le l (i + 1)
              rw [List.length_append, addr_len] at h1
              have h3 : (⟨a, (X : Int), b⟩ : S3).n.toNat = X := Int.toNat_natCast X
              rw [hvis]
              have := HTOT.out
              omega
            have HV := Lib.hid (And.intro hvis hpl)
            have HAV := Lib.hid (And.intro hav hwv)
            have HQ := Lib.hid (And.intro had8 (And.intro q0 (And.intro q1 q2)))
            have HMet := Lib.hid hMet
            clear hvis hpl hav hwv hMet hx hxi hmem q0 q1 q2
            go_wp2_with fail
            go_loopw [12, 14] (fun p s wi => ∃ (k : Nat) (AP : Option Addr) (C : Nat) (vi ql : List Int), k ≤ X ∧ vi = vis ++ ks a k ∧ ql = pl ++ (if b = true then ks a k else []) ∧ p = .slice AP ql.length C ∧ s = .int .u64 k ∧ MetAt W8 mb wi vi ql AP C) (fun p s wi => X - (intOf s).toNat)
            case atStart => exact ⟨0, AP, C, vis, pl, by omega, by simp [ks], by simp [ks], rfl, rfl, HMet.out⟩
            case round =>
              obtain ⟨k, AP, C, vi, ql, hk, hvi, hql, rfl, rfl, hMi⟩ := hrel
              have hbi := hMi.bel
              have hsi := hMi.siz
              obtain ⟨had8, q0, q1, q2⟩ := HQ.out
              have d0 := (hbi.cell (p := ad.add (i * 3)) (by rw [block_of_add]; exact had8)).trans q0
              have d1 := (hbi.cell (p := ⟨(ad.add (i * 3)).block, (ad.add (i * 3)).off + 1, none⟩) (show (ad.add (i * 3)).block < _ from by rw [block_of_add]; exact had8)).trans q1
              have d2 := (hbi.cell (p := ⟨(ad.add (i * 3)).block, (ad.add (i * 3)).off + 2, none⟩) (show (ad.add (i * 3)).block < _ from by rw [block_of_add]; exact had8)).trans q2
              clear had8 q0 q1 q2
              by_cases hkx : k < X
              · obtain ⟨D, hD⟩ := hMi.map
                have hwf : (Lit.int .u64 (a + (k : Nat))).wf = true := WalkArith.wf_u64 (by omega)
                by_cases hin : a + (k : Nat) ∈ vi
                · have hlook := hD.lookup hwf (decide_eq_true hin)
                  have HMi := Lib.hid hMi
                  clear hMi hD hin hvi hql
                  go_wp2_with fail
                  go_ret
                  exact ⟨rfl, hb8.trans (hbi.mono (by omega))⟩
                · have hlook := hD.lookup hwf (decide_eq_false hin)
                  have HMi := Lib.hid hMi
                  have HD := Lib.hid hD
                  have HI := Lib.hid hin
                  have HK := Lib.hid (And.intro hvi hql)
                  have hvil : vi.length < maxLen := by rw [hvi]; unfold maxLen; simp [ks]; omega
                  clear hMi hD hin hvi hql
                  go_wp2_with (at_mapUpdate; refine wpList_mapUpdate_own _ rfl _ _ _ 119 rfl 26 4 law Try.underlying119 _ mb vi.length D rfl HD.out.own hvil _ _ _ rfl rfl (Maps.keyOf_int_mk Try.underlying26 hwf) _ [] (plainElem_bool Try.underlying4 true) ?_)
                  intro W6 hown6 hg6
                  have hD6 := HD.out.put hown6
                  have hb6 : Below W8.heap.size W8 W6 := hbi.grown hg6 (by omega) (fun b e => by cases e; omega)
                  have ho6 := GmNew.own_ne HMi.out.own hg6 (fun b e => by cases e; left; omega)
                  have hs6 := hg6.size
                  have d2' := (World.cell?_of_block (a := ⟨(ad.add (i * 3)).block, (ad.add (i * 3)).off + 2, none⟩) (hg6.block (ad.add (i * 3)).block (Nat.lt_of_lt_of_le (by rw [block_of_add]; exact HQ.out.1) hbi.size) (by intro e; injection e with e; have := HQ.out.1; rw [block_of_add] at e; omega))).trans d2
                  have hnod : (vi ++ [a + (k : Nat)]).Nodup := by
                    rw [List.nodup_append]
                    exact ⟨HMi.out.nod, by simp, fun x hx y hy => by obtain rfl := List.mem_singleton.1 hy; intro e; subst e; exact HI.out hx⟩
                  have H6 := Lib.hid (And.intro hD6 (And.intro hb6 (And.intro ho6 hnod)))
                  clear hown6 hg6 hD6 hb6 ho6 hnod hlook d0 d1 d2
                  cases b with
                  | false =>
                    go_wp2_with fail
                    go_roundw
                    case rel =>
                      obtain ⟨k1, k2, k3, k4⟩ := H6.out
                      exact ⟨k + 1, AP, C, vi ++ [a + (k : Nat)], ql, by omega, by rw [ks_succ, HK.out.1, List.append_assoc], by have := HK.out.2; simpa using this, rfl, by go_num, ⟨⟨_, k1⟩, k4, k3, k2, by omega⟩⟩
                    case measure => simp [intOf]; omega
                  | true =>
                    obtain ⟨QN, hQN⟩ : ∃ QN, ql.length = QN := ⟨_, rfl⟩
                    have HQN := Lib.hid hQN
                    have hqnb : QN ≤ 1000000 := by
                      have h1 := congrArg List.length HK.out.2
                      have h2 := wad_le l i
                      have h3 := HV.out.2
                      have h4 := HTOT.out
                      rw [hQN, List.length_append, h3] at h1
                      simp [ks] at h1
                      omega
                    have HO := Lib.hid (show W6.ownsRow (mb + 1) 26 1 (.slice AP QN C) QN (u64s ql) from by have := H6.out.2.2.1; rw [hQN] at this; exact this)
                    have HO2 := Lib.hid (HO.out.alloc (.cells #[.int .u64 (a + (k : Nat))] 26))
                    have HN2 := Lib.hid (show ∀ j u, [Value.int .u64 (a + (k : Nat))][j]? = some u → (W6.alloc (.cells #[.int .u64 (a + (k : Nat))] 26)).cell? ((⟨W6.heap.size, 0, none⟩ : Addr).add j) = some u from by
                      intro j u hu
                      match j, hu with
                      | 0, hu => cases hu; exact World.cell?_alloc_new _ _ _ _)
                    rw [hQN]
                    clear hQN
                    go_wp2_with (at_builtin; refine wpList_append_own _ rfl _ _ 120 rfl (mb + 1) 26 iu (.int .u64 0) 1 8 Try.underlying120 HU0.out HU1.out HU2.out HU3.out rfl (by decide) (.slice AP QN C) QN (u64s ql) rfl HO2.out ⟨W6.heap.size, 0, none⟩ 1 1 [.int .u64 (a + (k : Nat))] rfl rfl HN2.out (by simp [Value.oneCell']) (by unfold maxLen; omega) (by omega) (by simp; omega) ?_)
                    intro v7 W7' hown7' hg7' _
                    obtain ⟨A7', C7', rfl⟩ := GmNew.own_slice hown7'
                    have hbk : ∀ g, (Value.slice AP QN C).ownBlock = some g → mb + 1 ≤ g := GmNew.own_block HO.out
                    have hm7 := ((H6.out.1.kept (World.grownBy_alloc W6 (.cells #[.int .u64 (a + (k : Nat))] 26) none) (by simp)).kept hg7' (fun e => by have := hbk mb e.symm; omega))
                    have hb7' : Below W8.heap.size W8 W7' := (H6.out.2.1.alloc (by omega) (.cells #[.int .u64 (a + (k : Nat))] 26)).grown hg7' (by simp; omega) (fun g e => by have := hbk g e; omega)
                    have hs7' := hg7'.size
                    rw [World.size_alloc] at hs7'
                    have H7 := Lib.hid (And.intro hm7 (And.intro hb7' hown7'))
                    clear hown7' hg7' hm7 hb7'
                    go_wp2_with fail
                    go_roundw
                    case rel =>
                      obtain ⟨k1, k2, k3⟩ := H7.out
                      have hl' : (ql ++ [a + (k : Nat)]).length = QN + 1 := by rw [List.length_append, HQN.out]; rfl
                      refine ⟨k + 1, A7', C7', vi ++ [a + (k : Nat)], ql ++ [a + (k : Nat)], by omega, by rw [ks_succ, HK.out.1, List.append_assoc], by rw [ks_succ, HK.out.2]; simp, by rw [hl'], by go_num, ⟨⟨_, k1⟩, H6.out.2.2.2, ?_, k2, by omega⟩⟩
                      rw [hl']
                      have : u64s (ql ++ [a + (k : Nat)]) = u64s ql ++ [.int .u64 (a + (k : Nat))] := by unfold u64s; rw [List.map_append]; rfl
                      rw [this]
                      exact k3
                    case measure => simp [intOf]; omega
              · obtain rfl : k = X := by omega
                have hka : ks a k = addr ⟨a, (k : Int), b⟩ := by unfold ks addr; rw [show (⟨a, (k : Int), b⟩ : S3).n.toNat = k from Int.toNat_natCast k]
                have HE := Lib.hid (And.intro (show vi = addrs (l.take (i + 1)) from by rw [hvi, hka, HAV.out.1, HV.out.1]) (show ql = wad (l.take (i + 1)) from by rw [hql, hka, HAV.out.2, HV.out.2]))
                have HMi := Lib.hid hMi
                clear hvi hql hMi hka
                go_wp2_with fail
                go_roundw
                case rel => exact ⟨i + 1, AP, C, vi, ql, by omega, HE.out.1, HE.out.2, rfl, by go_num, HMi.out⟩
                case measure => simp [intOf]; omega
          · obtain rfl : i = LN := by omega
            have hbel := hMet.bel
            have hsz := hMet.siz
            have etl : l.take i = l := List.take_of_length_le (by rw [HLN.out]; exact Nat.le_refl _)
            rw [etl] at hvis hpl
            obtain ⟨P, hP⟩ : ∃ P, partL l true = P := ⟨_, rfl⟩
            have hst : ∀ i, i < 1 → 0 ≤ (GmOne.oneM 0 ((2000 : Nat) : Int)).st i := fun i hi => (HM8.out.fit i hi).1
            have bP : Buf P := hP ▸ part_buf true HB.out
            have iP : allIn (GmOne.oneM 0 ((2000 : Nat) : Int)) 1 P = true := hP ▸ part_in hst true HAL.out HB.out
            have epl : pl = addrs P := by rw [hpl, wad_part HB.out, hP]
            have hnod : pl.Nodup := by
              have h1 := hMet.nod
              rw [hvis, addrs_part HB.out, hP] at h1
              rw [epl]
              exact (List.nodup_append.1 h1).2.1
            have hpin : ∀ p ∈ pl, 0 ≤ p ∧ p < 2000 := by
              intro p hp
              rw [epl] at hp
              exact addrs_in iP p hp
            have hpsm : (pl.length : Int) = sm P := by rw [epl]; exact addrs_len P bP.val
            have iT : allIn (GmOne.oneM 0 ((2000 : Nat) : Int)) 1 (takeL N P) = true := take_in hst N P iP bP.val
            have eT : addrs (takeL N P) = pl.take N := by rw [addrs_take _ _ bP.val (by omega), epl]; rfl
            have hTs : ((pl.take N).length : Int) = sm (takeL N P) := by rw [← eT]; exact addrs_len _ (bP.take N (by omega)).val
            have hplb : pl.length ≤ 128000 := by have := wad_sub l; have := HTOT.out; rw [hpl]; omega
            obtain ⟨Z, hZ⟩ : ∃ Z, (pl.take N).length = Z := ⟨_, rfl⟩
            obtain ⟨PL, hPL⟩ : ∃ PL, pl.length = PL := ⟨_, rfl⟩
            have hZm : Z = if N ≤ PL then N else PL := by
              rw [← hZ, List.length_take, hPL]
              split <;> omega
            rw [hPL] at hplb hpsm
            have hZ1 : Z ≤ N := by rw [hZm]; split <;> omega
            have hZ2 : Z ≤ PL := by rw [hZm]; split <;> omega
            have HP := Lib.hid (And.intro hP (And.intro bP (And.intro iP (And.intro epl (And.intro hnod hpin)))))
            have HT := Lib.hid (And.intro iT (And.intro eT (And.intro hTs (And.intro hpsm (And.intro hPL (And.intro hZ hZm))))))
            have HPw := Lib.hid (show wr.ownsRow (mb + 1) 26 1 (.slice AP PL C) PL (u64s pl) from by have := hMet.own; rwa [hPL] at this)
            have L10 := Lib.hid (lon L8.out hbel)
            have HM10 := Lib.hid (HM8.out.below hbel)
            have HR10 := Lib.hid (HR8.out.of_block (hbel.block b3 HR8.out.lt))
            have HI10 := Lib.hid (HI8.out.of_block (hbel.block B HI8.out.lt))
            have HZ10 := Lib.hid ((IsRow.below HZ8.out hbel).more hbel.size)
            have hb10 : Below w.heap.size w wr := hb8.trans (hbel.mono (by omega))
            have hbs := hbel.size
            have hB8 := HI8.out.lt
            clear hvis hpl hMet hP bP iP epl hnod hpin hpsm iT eT hTs hZ hPL hZm hst etl hbel
            rw [show pl.length = PL from HT.out.2.2.2.2.1]
            go_wp2_with fail
            (with_reducible refine (own_any AB N cb zs _ HN.out (by omega) HZ10.out (HN.out ▸ HZ.out.2.1)).mono ?_)
            rintro e W11 ⟨A11, c11, rfl, hown11, hg11⟩
            rw [HN.out] at hown11 ⊢
            have hnb : ∀ ad, A11 = some ad → ad.block ≠ b3 := fun ad e => by subst e; have := GmNew.own_block hown11 ad.block rfl; omega
            have HNB := Lib.hid hnb
            have HO11 := Lib.hid (own_row hown11)
            have hcap11 := own_cap hown11
            have L11 := Lib.hid (lon L10.out hg11)
            have HM11 := Lib.hid (HM10.out.below hg11)
            have HR11 := Lib.hid (HR10.out.of_block (hg11.block b3 HR10.out.lt))
            have HI11 := Lib.hid (HI10.out.of_block (hg11.block B HI10.out.lt))
            have HZ11 := Lib.hid ((IsRow.below HZ10.out hg11).more hg11.size)
            have HP11 := Lib.hid (own_below HPw.out hg11)
            have hb11 : Below w.heap.size w W11 := hb10.trans (hg11.mono (by omega))
            have hs11 := hg11.size
            clear hown11 hg11 hnb
            go_wp2_with fail
            have HSc := scatter_ok A c l A11 N c11 c3 (fun j => zs.getD j 0) 5 (fun j => .int .u8 (z0.getD j 0)) W11 HM11.out HB.out.raw L11.out HIN.out HM11.out.n3c HR11.out HO11.out.2 hcap11 (by omega) (fun _ ad e => HNB.out ad e)
            rw [HP.out.1, ← HT.out.2.2.1, HT.out.2.2.2.2.2.1, sc_set (fun j => zs.getD j 0) 0 _ _ HT.out.1, HT.out.2.1] at HSc
            rw [HLN.out] at HSc
            obtain ⟨hv, hhv⟩ : ∃ h : Nat → Int, (fun j => zs.getD j 0) = h := ⟨_, rfl⟩
            have e0 : (fun i => (fun j => zs.getD j 0) (0 + i)) = hv := by rw [← hhv]; funext i; rw [Nat.zero_add]
            rw [e0] at HSc
            obtain ⟨G1, hG1⟩ : ∃ G1, setI (fun j => z0.getD j 0) (pl.take N) hv = G1 := ⟨_, rfl⟩
            rw [hG1] at HSc
            have HG := Lib.hid (And.intro hhv hG1)
            clear hhv e0 hG1
            (with_reducible refine HSc.mono ?_)
            rintro e W12 ⟨rfl, hrow12, hg12⟩
            have hs12 := hg12.size
            have HM12 := Lib.hid (HM11.out.only hg12)
            have HBY12 := Lib.hid (by_of hrow12 HM11.out.n3c)
            have HI12 := Lib.hid (HI11.out.of_block (hg12.block B HI11.out.lt (by intro e; cases e; omega)))
            have L12 := Lib.hid (show Lst W12 W12.heap.size A l from row_other L11.out hg12 (fun h0 ad e => by obtain ⟨ad', e', hlt, _⟩ := HL.out h0; rw [e'] at e; cases e; omega))
            have HZ12 := Lib.hid (show IsRow W12 W12.heap.size 1 AB N (fun j => .int .u8 (zs.getD j 0)) from row_other HZ11.out hg12 (fun h0 ad e => by obtain ⟨ad', e', hlt, _⟩ := HZ.out.1 (by rw [HN.out]; exact h0); rw [e'] at e; cases e; omega))
            have HP12 := Lib.hid (GmNew.own_ne HP11.out hg12 (fun b e => by cases e; left; omega))
            have hb12 : Below w.heap.size w W12 := hb11.grown hg12 (by omega) (fun b e => by cases e; exact hfr')
            clear HSc hrow12 hg12
            have hmin : (if PL < N then (PL : Int) else (N : Int)) = (Z : Int) := by
              rw [HT.out.2.2.2.2.2.2]
              by_cases h : N ≤ PL
              · rw [if_neg (by omega), if_pos h]
              · rw [if_pos (by omega), if_neg h]
            go_wp2_with fail
            clear hmin
            have hgrr : W12.grownBy W12 (some B) := GmNew.grown_refl _ _
            have HGR := Lib.hid hgrr
            clear hgrr
            rw [show (fun j => Value.int .u8 (gi j)) = (fun j => Value.int .u8 (setI gi (pl.take 0) hv j)) from rfl] at HI12
            go_loopw [17] (fun s wr => ∃ k : Nat, k ≤ Z ∧ s = .int .i64 k ∧ wr.rowIs B 5 2000 (fun j => .int .u8 (setI gi (pl.take k) hv j)) ∧ W12.grownBy wr (some B)) (fun s wr => Z - (intOf s).toNat)
            case atStart => exact ⟨0, by omega, rfl, HI12.out, HGR.out⟩
            case round =>
              obtain ⟨k, hk, rfl, hrow, hg⟩ := hrel
              have hswr := hg.size
              by_cases hlt : k < Z
              · have hkp : k < pl.length := by rw [HT.out.2.2.2.2.1]; omega
                have hp0 := HP.out.2.2.2.2.2 _ (List.getElem_mem hkp)
                obtain ⟨pn, hpn⟩ : ∃ pn : Nat, pl[k] = (pn : Int) := ⟨pl[k].toNat, by omega⟩
                rw [hpn] at hp0
                have hpn2 : pn < 2000 := by omega
                obtain ⟨adp, hAP, hadp, hcp⟩ := (IsRow.of_own HP12.out) (by omega)
                have hbne : adp.block ≠ B := by
                  have h1 := GmNew.own_block HP12.out adp.block (by rw [hAP]; rfl)
                  omega
                subst hAP
                have c0 : wr.cell? (adp.add k) = some (.int .u64 pn) := by
                  refine (World.cell?_of_block (a := adp.add k) (by rw [block_of_add]; exact hg.block _ hadp (by intro e; cases e; exact hbne rfl))).trans ((hcp k (by omega)).trans ?_)
                  simp [u64s, List.getD_eq_getElem?_getD, hkp, hpn]
                obtain ⟨adb, hAB, hadb, hcb⟩ := HZ.out.1 (by rw [HN.out]; omega)
                have hZr := (row_other HZ12.out hg (fun h0 ad e => by rw [hAB] at e; cases e; omega)) (by omega)
                obtain ⟨adb', hAB', _, hcb'⟩ := hZr
                rw [hAB] at hAB'
                cases hAB'
                subst hAB
                have c1 : wr.cell? (adb.add k) = some (.int .u8 (zs.getD k 0)) := hcb' k (by omega)
                obtain ⟨zk, hzk⟩ : ∃ z, zs.getD k 0 = z := ⟨_, rfl⟩
                rw [hzk] at c1
                have c2 : wr.cell? ⟨B, pn, none⟩ = some (.int .u8 (setI gi (pl.take k) hv pn)) := hrow.cell hpn2
                have z2 : wr.frozen? ⟨B, pn, none⟩ = false := hrow.frozen _
                have HR := Lib.hid hrow
                have HGk := Lib.hid hg
                have hst : setI gi (pl.take (k + 1)) hv = upd (setI gi (pl.take k) hv) pn zk := by
                  rw [List.take_add_one, List.getElem?_eq_getElem hkp]
                  show setI gi (pl.take k ++ [pl[k]]) hv = _
                  rw [setI_snoc, hpn, List.length_take, Nat.min_eq_left (by omega), Int.toNat_natCast, ← HG.out.1, ← hzk]
                have HST := Lib.hid hst
                clear hrow hg hcp hcb hcb' hst hkp hpn
                go_wp2_with fail
                go_region
                go_wp2_with fail
                go_roundw
                case rel => exact ⟨k + 1, by omega, by go_num, (HR.out.set pn (.int .u8 zk)).congr (fun j _ => by
                  rw [HST.out]
                  unfold upd
                  by_cases e : j = pn
                  · rw [if_pos e, if_pos e]
                  · rw [if_neg e, if_neg e]), only_drew (only_setCell HGk.out (.inl rfl) _)⟩
                case measure => simp [intOf]; omega
              · obtain rfl : k = Z := by omega
                have ezt : pl.take k = pl.take N := by
                  have h7 := HT.out.2.2.2.2.2.2
                  have h5 := HT.out.2.2.2.2.1
                  by_cases h : N ≤ PL
                  · rw [if_pos h] at h7; rw [h7]
                  · rw [if_neg h] at h7
                    rw [List.take_of_length_le (by omega), List.take_of_length_le (by omega)]
                have HEZ := Lib.hid ezt
                obtain ⟨a24, b24, c24, d24⟩ := HA24.out
                have HM13 := Lib.hid (Mm_off HM12.out hg (by omega) (by omega) (by omega) (fun a e => by have := d24 a e; omega))
                have HBY13 := Lib.hid (By_off HBY12.out hg HM12.out.lt (by omega))
                have L13 := Lib.hid (show Lst wr wr.heap.size A l from row_other L12.out hg (fun h0 ad e => by obtain ⟨ad', e', hlt, _⟩ := HL.out h0; rw [e'] at e; cases e; omega))
                have HZ13 := Lib.hid (show IsRow wr wr.heap.size 1 AB N (fun j => .int .u8 (zs.getD j 0)) from row_other HZ12.out hg (fun h0 ad e => by obtain ⟨ad', e', hlt, _⟩ := HZ.out.1 (by rw [HN.out]; exact h0); rw [e'] at e; cases e; omega))
                have HI13 := Lib.hid hrow
                have hb13 : Below w.heap.size w wr := hb12.grown hg (by omega) (fun b e => by cases e; omega)
                clear hrow hg a24 b24 c24 d24 ezt
                go_wp2_with fail
                have hpa := part_any A c l true wr (by rw [HLN.out]; exact hlz) HB.out.raw L13.out
                rw [HP.out.1, HLN.out] at hpa
                (with_reducible refine hpa.mono ?_)
                rintro e W14 ⟨A14, c14, rfl, h14, hc14, hg14⟩
                have HM14 := Lib.hid (HM13.out.below hg14)
                have HBY14 := Lib.hid (show By W14 b3 2000 G1 from fun j hj => (hg14.cell (p := ⟨b3, j, none⟩) HM13.out.lt).trans (HBY13.out j hj))
                have HZ14 := Lib.hid ((IsRow.below HZ13.out hg14).more hg14.size)
                have HI14 := Lib.hid (HI13.out.of_block (hg14.block B HI13.out.lt))
                have hb14 : Below w.heap.size w W14 := hb13.trans (hg14.mono (by omega))
                have hs14 := hg14.size
                have HO14 := Lib.hid hc14.2.2.2
                have hM13lt := HM13.out.lt
                have hB13lt := HI13.out.lt
                have hgB : ∃ gB, wr.heap.size ≤ gB ∧ (0 < P.length → A14 = some ⟨gB, 0, none⟩ ∧ gB < W14.heap.size ∧ ∀ j, j < P.length * 3 → W14.cell? ⟨gB, j, none⟩ = some (cell P j) ∧ W14.frozen? ⟨gB, j, none⟩ = false) := by
                  by_cases h : 0 < P.length
                  · obtain ⟨g, e, q1, q2, q3⟩ := own_rows HO14.out h
                    exact ⟨g, q1, fun _ => ⟨e, q2, q3⟩⟩
                  · exact ⟨wr.heap.size, Nat.le_refl _, fun h' => absurd h' h⟩
                obtain ⟨gB, hgB1, hgB2⟩ := hgB
                have HGB := Lib.hid hgB2
                obtain ⟨PN, hPN⟩ : ∃ PN, P.length = PN := ⟨_, rfl⟩
                have HPN := Lib.hid hPN
                have hPNb : PN ≤ 64 := by have := HP.out.2.1.len; omega
                rw [hPN]
                clear h14 hc14 hg14 hgB2 hPN hpa
                go_wp2_with fail
                go_loopw [19] (fun s wi => ∃ q : Nat, q ≤ PN ∧ s = .int .i64 q ∧ (0 < PN → ∀ j, j < PN * 3 → wi.cell? ⟨gB, j, none⟩ = some (if j % 3 = 2 ∧ j / 3 < q then .bool false else cell P j) ∧ wi.frozen? ⟨gB, j, none⟩ = false) ∧ W14.grownBy wi (some gB)) (fun s wi => PN - (intOf s).toNat)
                case atStart => exact ⟨0, by omega, rfl, fun h j hj => by obtain ⟨_, _, q3⟩ := HGB.out (by rw [HPN.out]; exact h); rw [if_neg (by omega)]; exact q3 j (by rw [HPN.out]; exact hj), GmNew.grown_refl _ _⟩
                case round =>
                  obtain ⟨q, hq, rfl, hcs, hg⟩ := hrel
                  by_cases hlt : q < PN
                  · obtain ⟨hA14, hgl, _⟩ := HGB.out (by rw [HPN.out]; omega)
                    subst hA14
                    obtain ⟨f2, f3⟩ := hcs (by omega) (q * 3 + 2) (by omega)
                    have HCS := Lib.hid (hcs (by omega))
                    have HGq := Lib.hid hg
                    clear hcs hg
                    go_wp2_with fail
                    go_roundw
                    case rel => exact ⟨q + 1, by omega, by go_num, fun _ j hj => by
                      rw [World.frozen?_setCell]
                      by_cases e : j = q * 3 + 2
                      · subst e
                        rw [if_pos ⟨by omega, by omega⟩]
                        exact ⟨World.cell?_setCell_same _ _ _ (HCS.out _ hj).1, (HCS.out _ hj).2⟩
                      · rw [World.cell?_setCell_other _ _ _ _ (by intro e'; injection e' with _ e'; exact e e'.symm), (HCS.out _ hj).1]
                        refine ⟨?_, (HCS.out _ hj).2⟩
                        by_cases h : j % 3 = 2 ∧ j / 3 < q
                        · rw [if_pos h, if_pos ⟨h.1, by omega⟩]
                        · rw [if_neg h, if_neg (fun h' => h ⟨h'.1, by have := h'.1; have := h'.2; omega⟩)], only_setCell HGq.out (.inl rfl) _⟩
                    case measure => simp [intOf]; omega
                  · obtain rfl : q = PN := by omega
                    have hlr : (rdd P).length = q := by unfold rdd; rw [List.length_map, HPN.out]
                    obtain ⟨a24, b24, c24, d24⟩ := HA24.out
                    have LR := Lib.hid (show Lst wr wr.heap.size A14 (rdd P) from fun h0 => by
                      rw [hlr] at h0
                      obtain ⟨eA, hgl, _⟩ := HGB.out (by rw [HPN.out]; exact h0)
                      refine ⟨_, eA, Nat.lt_of_lt_of_le hgl hg.size, fun j hj => ?_⟩
                      have e : (⟨gB, 0, none⟩ : Addr).add j = ⟨gB, j, none⟩ := by unfold Addr.add; split <;> simp_all
                      rw [hlr] at hj
                      rw [e, (hcs h0 j hj).1, rdd_cell P (by rw [HPN.out]; exact hj)]
                      by_cases h : j % 3 = 2
                      · rw [if_pos ⟨h, by omega⟩, if_pos h]
                      · rw [if_neg (fun h' => h h'.1), if_neg h])
                    have HM15 := Lib.hid (Mm_off HM14.out hg (by omega) (by omega) (by omega) (fun a e => by have := d24 a e; omega))
                    have HBY15 := Lib.hid (By_off HBY14.out hg HM14.out.lt (by omega))
                    have HI15 := Lib.hid (HI14.out.of_block (hg.block B HI14.out.lt (by intro e; cases e; omega)))
                    have HZ15 := Lib.hid (show IsRow wr wr.heap.size 1 AB N (fun j => .int .u8 (zs.getD j 0)) from row_other HZ14.out hg (fun h0 ad e => by obtain ⟨ad', e', hlt, _⟩ := HZ.out.1 (by rw [HN.out]; exact h0); rw [e'] at e; cases e; omega))
                    have hs15 := hg.size
                    have hb15 : Below w.heap.size w wr := hb14.grown hg (by omega) (fun b e => by cases e; omega)
                    have hXS : gaL (GmOne.oneM 0 ((2000 : Nat) : Int)) 1 G1 (partL (rdd P) false) = pl.map fun p => G1 p.toNat := by
                      rw [part_reads (rdd_buf HP.out.2.1) (rdd_reads P), ga_addrs G1 _ (rdd_in HP.out.2.2.1), rdd_addrs, HP.out.2.2.2.1]
                    have hrds : rd (rdd P) ≤ 1000000000 := by
                      have h1 := (rdd_buf HP.out.2.1).rd_wr
                      have h2 := (rdd_buf HP.out.2.1).wr0
                      have h3 := rdd_sm P
                      have h4 := HT.out.2.2.2.1
                      omega
                    have hga := gather_ok A14 c14 (rdd P) G1 wr HM15.out (rdd_buf HP.out.2.1).raw LR.out (inL_of (rdd_buf HP.out.2.1) (rdd_in HP.out.2.2.1)) HBY15.out hrds
                    rw [hlr, hXS] at hga
                    obtain ⟨XS, hXS'⟩ : ∃ XS, (pl.map fun p => G1 p.toNat) = XS := ⟨_, rfl⟩
                    rw [hXS'] at hga
                    have hXL : XS.length = PL := by rw [← hXS', List.length_map]; exact HT.out.2.2.2.2.1
                    have HXS := Lib.hid hXS'
                    have HXL := Lib.hid hXL
                    clear hg hcs a24 b24 c24 d24 hXS hrds hXS' hXL hlr
                    go_wp2_with fail
                    (with_reducible refine hga.mono ?_)
                    rintro e W16 ⟨A16, c16, rfl, h16, hg16⟩
                    rw [HXL.out] at h16 ⊢
                    have hM16 := HM15.out.below hg16
                    have hBY16 : By W16 b3 2000 G1 := fun j hj => (hg16.cell (p := ⟨b3, j, none⟩) HM15.out.lt).trans (HBY15.out j hj)
                    have hb16 : Below w.heap.size w W16 := hb15.trans (hg16.mono (by omega))
                    have hG1e : ∀ j, j < 2000 → setI gi (pl.take N) hv j = G1 j := fun j hj => by
                      rw [← HG.out.2]
                      refine setI_congr _ _ ?_
                      rw [← HZ0.out]
                      unfold listOf
                      simp [List.getD_eq_getElem?_getD, hj]
                    have hI16 : W16.rowIs B 5 2000 (fun j => .int .u8 (G1 j)) := (HI15.out.of_block (hg16.block B HI15.out.lt)).congr fun j hj => by
                      rw [HEZ.out, hG1e j hj]
                    have hbyt : ∀ j, 0 ≤ hv j ∧ hv j ≤ 255 := fun j => by
                      rw [← HG.out.1]
                      show 0 ≤ zs.getD j 0 ∧ zs.getD j 0 ≤ 255
                      by_cases h : j < zs.length
                      · have := HZ.out.2.2 _ (List.getElem_mem h)
                        simpa [List.getD_eq_getElem?_getD, h] using this
                      · rw [List.getD_eq_getElem?_getD, List.getElem?_eq_none (by omega)]; decide
                    have hgib : ∀ j, 0 ≤ z0.getD j 0 ∧ z0.getD j 0 ≤ 255 := fun j => by
                      rw [← HZ0.out, ← HGI.out]
                      by_cases h : j < 2000
                      · simp [listOf, List.getD_eq_getElem?_getD, h]; omega
                      · simp [listOf, List.getD_eq_getElem?_getD, h]
                    have hG1b : ∀ j, 0 ≤ G1 j ∧ G1 j ≤ 255 := fun j => by rw [← HG.out.2]; exact setI_bytes _ _ _ hgib hbyt j
                    have hXZ : XS.take k = zs.take k := by
                      refine List.ext_getElem (by rw [List.length_take, List.length_take, HXL.out, HN.out]; omega) fun j h1 h2 => ?_
                      have hjZ : j < k := by rw [List.length_take] at h1; omega
                      have hjp : j < pl.length := by rw [HT.out.2.2.2.2.1]; omega
                      have hjn : j < (pl.take N).length := by rw [HT.out.2.2.2.2.2.1]; exact hjZ
                      rw [List.getElem_take, List.getElem_take]
                      have e1 : XS[j]'(by rw [HXL.out]; omega) = G1 pl[j].toNat := by
                        have : ∀ (h : j < XS.length), XS[j] = G1 pl[j].toNat := by
                          rw [← HXS.out]; intro h; rw [List.getElem_map]
                        exact this _
                      have e2 : G1 pl[j].toNat = hv j := by
                        rw [← HG.out.2]
                        have := setI_get (fun j => z0.getD j 0) (pl.take N) hv ((List.take_sublist N pl).nodup HP.out.2.2.2.2.1) (fun p hp => (HP.out.2.2.2.2.2 p (List.mem_of_mem_take hp)).1) j hjn
                        rwa [List.getElem_take] at this
                      have hjz : j < zs.length := by rw [HN.out]; omega
                      rw [e1, e2, ← HG.out.1]
                      simp [List.getD_eq_getElem?_getD, hjz]
                    have hor := own_row h16
                    have hK1 : IsRow W16 W16.heap.size 1 A16 k (fun j => .int .u8 ((zs.take k).getD j 0)) := by
                      rw [← hXZ]
                      exact row_take hor.2 hZ2 HXL.out
                    have hK2 : IsRow W16 W16.heap.size 1 AB k (fun j => .int .u8 ((zs.take k).getD j 0)) := row_take ((IsRow.below HZ15.out hg16).more hg16.size) hZ1 HN.out
                    have hc16 := own_cap h16
                    have hzl : (zs.take k).length = k := by rw [List.length_take, HN.out]; omega
                    have hzb : IsBytes (zs.take k) := fun z hz => HZ.out.2.2 z (List.mem_of_mem_take hz)
                    have HOB := Lib.hid (And.intro hM16 (And.intro hBY16 (And.intro (list_bytes G1 2000 hG1b) (And.intro (image_row hI16) (And.intro hK1 (And.intro hK2 (And.intro hzl hzb)))))))
                    clear hga h16 hg16 hM16 hBY16 hG1e hI16 hbyt hgib hG1b hXZ hor hK1 hK2 hzl hzb
                    go_wp2_with fail
                    refine Asrt.to_ops (id := 41) (ops := SegScattersR.OPS) (by kernel_rfl) ?_
                    refine Asrt.wp_region_assert (by kernel_rfl) (by kernel_rfl) (Lib.Held w W16 []) [(158, .is (.int .i64 0)), (159, .is (.bool true)), (160, .is (.bool true)), (161, .is (.pointer (some ⟨m, 0, none⟩))), (162, .row 5 2000 (fun j => .int .u8 (G1 j))), (163, .is (.string (strL (listOf G1 2000)))), (164, .is (.slice (some ⟨B, 0, none⟩) 2000 2000)), (165, .is (.string (strL (listOf G1 2000)))), (166, .is (.bool true)), (167, .is (.bool true)), (168, .is (.bool true)), (169, .is (.slice A16 PL c16)), (170, .is (.int .i64 (PL : Int))), (171, .is (.slice AP PL C)), (172, .is (.int .i64 (PL : Int))), (173, .is (.bool true)), (174, .is (.bool true)), (175, .is (.bool true)), (176, .is (.slice A16 PL c16)), (177, .is (.int .i64 (k : Int))), (178, .is (.slice A16 k c16)), (179, .is (.string (strL (zs.take k)))), (180, .is (.slice AB N cb)), (181, .is (.int .i64 (k : Int))), (182, .is (.slice AB k cb)), (183, .is (.string (strL (zs.take k)))), (184, .is (.bool true)), (185, .is (.bool true)), (6, .is (.bool true))]
                      ⟨hb16.drew, (Below.refl _ _).drew, trivial⟩ (by kernel_rfl) (by kernel_rfl)
                      (SegScattersR.obs HOB.out.1 HOB.out.2.1 HOB.out.2.2.1 HOB.out.2.2.2.1 HOB.out.2.2.2.2.1 HOB.out.2.2.2.2.2.1 HOB.out.2.2.2.2.2.2.1 HOB.out.2.2.2.2.2.2.2 (by omega) (by omega) _ (fun _ _ => rfl) (fun _ _ => rfl) (fun _ _ => rfl) (fun _ _ => rfl) (fun _ _ => rfl) (fun _ _ => rfl) (fun _ _ => rfl) (fun _ _ => rfl) (fun _ _ => rfl) (fun _ _ => rfl) (fun _ _ => rfl) (fun _ _ => rfl) (fun _ _ => rfl) (fun _ _ => rfl) (fun _ _ => rfl) (fun _ _ => rfl) (fun _ _ => rfl) (fun _ _ => rfl) (fun _ _ => rfl) (fun _ _ => rfl) (fun _ _ => rfl) (fun _ _ => rfl) (fun _ _ => rfl) (fun _ _ => rfl) (fun _ _ => rfl) (fun _ _ => rfl) (fun _ _ => rfl) (fun _ _ => rfl) (fun _ _ => rfl) (fun _ _ => rfl) (fun _ _ => rfl) (fun _ _ => rfl) (fun _ _ => rfl) (fun _ _ => rfl) (fun _ _ => rfl) (fun _ _ => rfl)) ?_
                    intro a9 w9 hC9 hB9 hs9 hd9 hT9 hU9
                    have e6 : a9.tmps.getD 6 undef = .bool true := hT9 6 _ rfl
                    rename_i K hK
                    refine hK _ _ (wp_ret ?_)
                    refine bodyPost_ret (results_tmp rfl _ _ _) hd9 ?_
                    rw [e6]
                    exact ⟨rfl, hC9.1⟩

theorem walk (v : Value) (A : Option Addr) (c : Nat) (l : List S3) (u : Value) (zs : List Int) (fill : Int) (w : World) (hs : IsSegs w v A c l) (hz : Args.IsInts w .u8 u zs) (w3 : (Lit.int .u8 fill).wf = true) :
    Calls Try.prog 11 #[v, u, .int .u8 fill] w (Lib.True1 w.heap.size w) := by
  obtain ⟨rfl, h1, h2, h3, h4⟩ := hs
  obtain ⟨AB, cb, rfl, k1, k2, k3, k4, k5⟩ := open_u8s hz
  by_cases hl : 100 < l.length
  · exact walk_many A c l _ fill w hl (by unfold maxLen at h2; omega)
  · by_cases hn : 20000 < zs.length
    · exact walk_long A AB c _ cb l fill w (by omega) hn (by unfold maxLen at k2; omega)
    · by_cases hk : checkL l = 0
      · exact walk_ok A AB c cb l zs fill w h4 (Buf.of h3 hk) (by omega) k3 k4 k1 k2 k5 (bounds_u8 w3)
      · exact walk_bad A AB c _ cb l fill w (by omega) (by omega) h3 h4 hk

set_option maxRecDepth 100000 in
theorem lifted (os : Os) (started : os.Started) (H : Type) (enc : TypeId × Value → H) :
    ReturnsInHanded {} Try.checked os 11 .any (Rows.segScattersSpec.pre6 enc Try.prog Try.f11 Rows.segScattersRow.domain false) (Rows.segScattersSpec.post enc Try.prog Try.f11 false true false false) := by
  refine Lib.lifted (C := Try.checked) (tb := 4) H enc Lib.own started (by kernel_rfl) Try.func11
    (ChangeSpec.witness6 (enc := enc) (C := Try.checked) false ⟨#[], #[.slice none 0 0, .slice none 0 0, .int .u8 0], []⟩ 8 (by kernel_rfl) (by kernel_rfl) (by kernel_rfl) (by kernel_rfl))
    Lib.laidOut (Lib.readable_of (by kernel_rfl)) rfl Try.underlying4 rfl ?_ ?_
  · intro ds h
    match ds, h with
    | [_, _, _], _ => exact ⟨rfl, rfl, rfl⟩
  · intro W base args ds p hval hA hfz hlt
    rw [Try.params11] at hval
    have hA' : DataW.TrodAll enc Try.prog W 0 (fun _ => true) true Try.f11.params.toList args.toList ds p := hA
    rw [Try.params11] at hA'
    obtain ⟨v0, vs0, d0, ds0, p0, q0, hargs, rfl, rfl, h0, r0⟩ := trodAll_cons hA'
    obtain ⟨v1, vs1, d1, ds1, p1, q1, rfl, rfl, rfl, h1, r1⟩ := trodAll_cons r0
    obtain ⟨v2, vs2, d2, ds2, p2, q2, rfl, rfl, rfl, h2, r2⟩ := trodAll_cons r1
    obtain ⟨rfl, rfl, rfl⟩ := trodAll_nil r2
    obtain rfl : args = #[v0, v1, v2] := by cases args; simp_all
    obtain ⟨a0_0, a0_1, a0_2, w0⟩ := SgArgs.open_segs (hval 0 103 v0 rfl rfl) h0
    obtain ⟨zs1, w1⟩ := Args.open_ints Try.underlying37 Try.underlying5 (by kernel_rfl) (hval 1 37 v1 rfl rfl) h1 (fun x hx => hlt x (by simp [hx]))
    obtain ⟨a2, rfl, rfl, rfl, w2⟩ := open_int Try.underlying5 (hval 2 5 v2 rfl rfl) h2
    exact walk v0 a0_0 a0_1 a0_2 v1 zs1 a2 W w0 w1 w2

theorem over : Rows.segScattersRow.holds Try.pinned (OpenSpec.ofChange Rows.segScattersSpec) :=
  OpenClaim.holds_of_wide 11 Try.f11 rfl rfl rfl rfl rfl rfl rfl ⟨rfl, rfl, rfl, rfl, rfl⟩ rfl rfl rfl rfl rfl (by kernel_rfl) Try.func11 (by kernel_rfl)
    (of_decide_eq_true (by kernel_rfl)) (by unfold Func.isWrapper; first | (rw [if_pos (by decide +kernel)]; kernel_rfl) | (rw [if_neg (by decide +kernel)]; exact ⟨rfl, rfl⟩))
    (fun os started H enc _ => lifted os started H enc)

/-- The statement. -/
theorem proved : Rows.SegScattersSaid :=
  over

end Go.Proofs.Ytohopmccggggbaa.SegScatters
