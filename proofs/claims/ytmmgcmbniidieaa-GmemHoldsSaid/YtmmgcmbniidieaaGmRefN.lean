
/- The document's own memory: a round of its New, whatever the order of its operations. -/
import Derived.Test.YtmmgcmbniidieaaGmNew
import Derived.Test.YtmmgcmbniidieaaAssert2
import Derived.Maps.AppendAt
import Derived.Great.BuildSlice
namespace Go.Proofs.Ytmmgcmbniidieaa.GmRefN
open Go.RowKit Rw GmFind GmWord GmCheck GmNew Asr2
set_option linter.unusedVariables false
set_option linter.unusedSimpArgs false
set_option linter.unusedSectionVars false

noncomputable def OPS : Array Oper := Asrt.opsOf Try.f11 7

/-- One part's slice. -/
def sl (p : Nat × Nat) : Value := .slice (some ⟨p.1, 0, none⟩) p.2 p.2
/-- The parts: a row of their slices, each in a block of its own, of zeros. -/
structure Ps (W : World) (B mm : Nat) (v : Value) (ps : List (Nat × Nat)) : Prop where
  own : W.ownsRow B 37 1 v ps.length (ps.map sl)
  om : v.ownBlock ≠ some mm
  row : ∀ p ∈ ps, B ≤ p.1 ∧ p.1 ≠ mm ∧ W.rowIs p.1 5 p.2 (fun _ => .int .u8 0)
  nd : (ps.map (·.1)).Nodup
def MM (W : World) (mm : Nat) (L u : Value) : Prop := W.rowIs mm 79 2 (fun i => if i = 0 then L else u)
/-- A part that is on its way into the row. -/
structure Nw (W : World) (B mm : Nat) (v : Value) (ps : List (Nat × Nat)) (b N : Nat) : Prop where
  pp : Ps W B mm v ps
  b0 : B ≤ b
  bm : b ≠ mm
  fr : ∀ p ∈ ps, p.1 ≠ b
  row : W.rowIs b 5 N (fun _ => .int .u8 0)

theorem own_ty {W : World} {B n b N : Nat} {v : Value} {xs : List Value} {f : Nat → Value} (ho : W.ownsRow B 37 1 v n xs) (h : W.rowIs b 5 N f) : v.ownBlock ≠ some b := by
  intro e
  rcases ho.2 with ⟨h3, _⟩ | ⟨g', cap, cur, h3, _, hh, _⟩
  · rw [h3] at e; cases e
  · rw [h3] at e
    cases e
    obtain ⟨cur', hh', _⟩ := h
    rw [hh] at hh'
    injection hh' with hh'
    injection hh' with _ ht
    exact absurd ht (by decide)

section
variable {W W' : World} {B mm b N : Nat} {v u L : Value} {ps : List (Nat × Nat)}
theorem Ps.grown (h : Ps W B mm v ps) (hg : W.grownBy W' none) : Ps W' B mm v ps :=
  ⟨h.own.kept hg (by cases v.ownBlock <;> simp), h.om, fun p hp => ⟨(h.row p hp).1, (h.row p hp).2.1, kept_row (h.row p hp).2.2 hg (by simp)⟩, h.nd⟩
theorem Nw.grown (h : Nw W B mm v ps b N) (hg : W.grownBy W' none) : Nw W' B mm v ps b N :=
  ⟨h.pp.grown hg, h.b0, h.bm, h.fr, kept_row h.row hg (by simp)⟩
theorem MM.grown {row : Option Nat} (h : MM W mm L u) (hg : W.grownBy W' row) (hr : row ≠ some mm) : MM W' mm L u := kept_row h hg hr
theorem grown_set (W : World) (a : Addr) (u : Value) : W.grownBy (W.setCell a u) (some a.block) :=
  ⟨rfl, rfl, rfl, by simp [World.setCell], fun k _ hne => Go.Deep.blk_setCell_other _ _ _ _ (fun e => hne (by rw [e]))⟩
theorem MM.set (h : MM W mm L u) (v : Value) : MM (W.setCell ⟨mm, 1, none⟩ v) mm L v :=
  (World.rowIs.set h 1 v).congr fun i hi => by
    match i, hi with
    | 0, _ => rfl
    | 1, _ => rfl
theorem Ps.set (h : Ps W B mm v ps) (u : Value) : Ps (W.setCell ⟨mm, 1, none⟩ u) B mm v ps :=
  have hg := grown_set W ⟨mm, 1, none⟩ u
  ⟨h.own.kept hg (.inr h.om), h.om, fun p hp => ⟨(h.row p hp).1, (h.row p hp).2.1, kept_row (h.row p hp).2.2 hg (fun e => (h.row p hp).2.1 (by cases e; rfl))⟩, h.nd⟩
theorem Nw.append {v' : Value} (h : Nw W B mm v ps b N) (hl : mm < W.heap.size) (ho : W'.ownsRow B 37 1 v' (ps.length + 1) (ps.map sl ++ [sl (b, N)])) (hg : W.grownBy W' v.ownBlock)
    (ha : v'.ownBlock = v.ownBlock ∨ v'.ownBlock = some W.heap.size) : Ps W' B mm v' (ps ++ [(b, N)]) := by
  refine ⟨by simpa using ho, ?_, ?_, ?_⟩
  · rcases ha with e | e
    · rw [e]; exact h.pp.om
    · rw [e]; intro e; cases e; omega
  · intro p hp
    rcases List.mem_append.1 hp with hp | hp
    · have := h.pp.row p hp
      exact ⟨this.1, this.2.1, kept_row this.2.2 hg (own_ty h.pp.own this.2.2)⟩
    · obtain rfl := List.mem_singleton.1 hp
      exact ⟨h.b0, h.bm, kept_row h.row hg (own_ty h.pp.own h.row)⟩
  · rw [List.map_append, List.nodup_append]
    refine ⟨h.pp.nd, by simp, fun x hx y hy => ?_⟩
    obtain ⟨p, hp, rfl⟩ := List.mem_map.1 hx
    obtain rfl : y = b := by simpa using hy
    exact h.fr p hp
end

section
variable {w V W : World} {o : Oper} {a : Act}
theorem x_field {s m : Nat} (hs : a.tmps.getD s undef = .pointer (some ⟨m, 0, none⟩)) (hop : o.op = .fieldAddr 79 (.tmp s) 1) : (execOp a.eval o).run Try.prog W = .ok (.value (.pointer (some ⟨m, 1, none⟩))) W := by
  simp only [execOp, hop, Act.eval, hs]
  simp [go_sem]
theorem x_index {s q k c i : Nat} {A : Addr} (hs : a.tmps.getD s undef = .slice (some A) k c) (hq : a.tmps.getD q undef = .int .i64 (i : Int)) (hi : i < k) (hop : o.op = .indexAddr 22 (.tmp s) (.tmp q)) : (execOp a.eval o).run Try.prog W = .ok (.value (.pointer (some (A.add (i * 2))))) W := by
  have h1 : ¬ k ≤ i := by omega
  simp only [execOp, hop, Act.eval, hs, hq]
  simp [go_sem, h1]
theorem x_field1 {s : Nat} {A : Addr} (hs : a.tmps.getD s undef = .pointer (some A)) (hop : o.op = .fieldAddr 55 (.tmp s) 1) : (execOp a.eval o).run Try.prog W = .ok (.value (.pointer (some ⟨A.block, A.off + 1, none⟩))) W := by
  simp only [execOp, hop, Act.eval, hs]
  simp [go_sem]
theorem x_load {s : Nat} {t : TypeId} {A : Addr} {v : Value} (hs : a.tmps.getD s undef = .pointer (some A)) (ht : t = 77 ∨ t = 26) (hc : W.cell? A = some v) (hop : o.op = .load t (.tmp s)) : (execOp a.eval o).run Try.prog W = .ok (.value v) W := by
  rcases ht with rfl | rfl <;>
  · simp only [execOp, hop, Act.eval, hs]
    simp [go_sem, hc]
theorem x_store {s q m n c : Nat} {A : Option Addr} (hs : a.tmps.getD s undef = .pointer (some ⟨m, 1, none⟩)) (hq : a.tmps.getD q undef = .slice A n c) {L u : Value} (hM : MM W m L u) (hop : o.op = .store 77 (.tmp s) (.tmp q)) : (execOp a.eval o).run Try.prog W = .ok .skip (W.setCell ⟨m, 1, none⟩ (.slice A n c)) := by
  have hc := hM.cell (i := 1) (by decide)
  have hf := hM.frozen 1
  simp only [execOp, hop, Act.eval, hs, hq]
  simp [go_sem, hc, hf]
theorem rowinfo : ∃ i, Try.prog.info? 37 = some i ∧ i.zero = some (.slice none 0 0) ∧ i.size = 1 ∧ i.bytes = 24 := by
  have h : (Try.prog.info? 37).map (fun i => (i.size, i.bytes)) = some (1, 24) := by kernel_rfl
  have h2 : (Try.prog.info? 37).bind (fun i => i.zero) = some (.slice none 0 0) := by kernel_rfl
  obtain ⟨i, hi, hs⟩ := Option.map_eq_some_iff.1 h
  rw [hi] at h2
  exact ⟨i, hi, h2, (Prod.mk.inj hs).1, (Prod.mk.inj hs).2⟩
theorem x_make {s N : Nat} {k : IntKind} (hs : a.tmps.getD s undef = .int k (N : Int)) (hN : N ≤ 1048576) (hop : o.op = .makeSlice 37 (.tmp s) (.tmp s)) :
    ∃ W', (execOp a.eval o).run Try.prog W = .ok (.value (sl (W.heap.size, N))) W' ∧ W'.rowIs W.heap.size 5 N (fun _ => .int .u8 0) ∧ W.grownBy W' none := by
  obtain ⟨i0, hi0, hz0, hs0, hby⟩ := u8info
  have hr := run_make (P := Try.prog) W 37 5 i0 (.int .u8 0) Try.underlying37 hi0 hz0 k k (N : Int) (N : Int) (by omega) (Int.le_refl _) (by rw [hby]; omega) (by omega)
  rw [hs0] at hr
  simp only [Int.toNat_natCast, Nat.mul_one] at hr
  refine ⟨_, ?_, World.rowIs_made W (.int .u8 0) N 5, World.grownBy_alloc W _ none⟩
  simp only [execOp, hop, Act.eval, hs, Sem.run_bind, hr, Result.andThen_ok, Sem.run_pure]
  rfl
theorem x_build {s : Nat} {A : Option Addr} {n c : Nat} (hs : a.tmps.getD s undef = .slice A n c) (hop : o.op = .buildSlice 77 1 #[(0, .tmp s)]) :
    (execOp a.eval o).run Try.prog W = .ok (.value (.slice (some ⟨W.heap.size, 0, none⟩) 1 1)) (W.alloc (.cells #[.slice A n c] 37)) := by
  simp only [execOp, hop, Act.eval, List.map_toArray, List.map_cons, List.map_nil, hs]
  simp [go_sem]
theorem x_append {s q B n g : Nat} {v x : Value} {xs : List Value} (hs : a.tmps.getD s undef = v) (hq : a.tmps.getD q undef = .slice (some ⟨g, 0, none⟩) 1 1) (hown : W.ownsRow B 37 1 v n xs) (hc : W.cell? ⟨g, 0, none⟩ = some x) (hx : x.oneCell' = true) (hn : n ≤ 1000) (hB : B ≤ W.heap.size)
    (hop : o.op = .call { callee := .builtin .append, args := #[.tmp s, .tmp q], argTypes := #[77, 77] }) :
    ∃ v' W', (execOp a.eval o).run Try.prog W = .ok (.value v') W' ∧ W'.ownsRow B 37 1 v' (n + 1) (xs ++ [x]) ∧ W.grownBy W' v.ownBlock ∧ (v'.ownBlock = v.ownBlock ∨ v'.ownBlock = some W.heap.size) := by
  obtain ⟨i0, hi0, hz0, hs0, hby⟩ := rowinfo
  obtain ⟨v', W', hr, h2, h3, _, h5⟩ := run_append_own_at (P := Try.prog) W B 77 o.type 37 i0 (.slice none 0 0) 1 24 Try.underlying77 hi0 hz0 hs0 hby rfl (by decide) v n xs hown ⟨g, 0, none⟩ 1 1 [x] rfl
    (fun j u hj => by
      match j, hj with
      | 0, hj => cases hj; exact hc) (fun u hu => by obtain rfl := List.mem_singleton.1 hu; exact hx) (by unfold maxLen; omega) (by omega) hB
  refine ⟨v', W', ?_, h2, h3, h5⟩
  simp only [execOp, hop, resolve, invoke, builtin, Act.eval, Sem.run_bind, Sem.run_pure, Result.andThen_ok, List.map_toArray, List.map_cons, List.map_nil, hs, hq, hr]
theorem x_nil {s : Nat} {p : Addr} (hs : a.tmps.getD s undef = .pointer (some p)) (hop : o.op = .nilCheck (.tmp s)) : (execOp a.eval o).run Try.prog W = .ok (.value (.pointer (some p))) W := by
  simp only [execOp, hop, Act.eval, hs, Sem.run_pure]
end

/-- What the round reads and writes: the memory mm, its row v of the parts so far, the list's element i, N bytes long. -/
structure Rd where
  (w0 : World) (B mm k c i N : Nat) (A : Addr) (L v : Value) (ps : List (Nat × Nat))
def Rd.P (r : Rd) (W : World) : Prop := Ps W r.B r.mm r.v r.ps
def Rd.M (r : Rd) (W : World) : Prop := MM W r.mm r.L r.v
def Rd.fld (r : Rd) : Addr := ⟨(r.A.add (r.i * 2)).block, (r.A.add (r.i * 2)).off + 1, none⟩
def Rd.isP (r : Rd) (c : Value) : As2 := fun x W => x = c ∧ r.P W
def Rd.isM (r : Rd) (c : Value) : As2 := fun x W => x = c ∧ r.M W
def Rd.TL (r : Rd) : List (Nat × As2) := [
  (0, r.isP (.slice (some r.A) r.k r.c)), (4, r.isM (.pointer (some ⟨r.mm, 0, none⟩))), (5, is (.int .i64 (r.i : Int))),
  (20, is (.pointer (some ⟨r.mm, 0, none⟩))), (21, r.isM (.pointer (some ⟨r.mm, 0, none⟩))), (22, r.isM (.pointer (some ⟨r.mm, 0, none⟩))), (23, r.isM (.pointer (some ⟨r.mm, 1, none⟩))), (24, is r.v),
  (25, r.isP (.slice (some r.A) r.k r.c)), (26, is (.int .i64 (r.i : Int))), (27, r.isP (.pointer (some (r.A.add (r.i * 2))))), (28, r.isP (.pointer (some r.fld))), (29, r.isP (.int .u64 (r.N : Int))),
  (30, fun x W => ∃ b, x = sl (b, r.N) ∧ Nw W r.B r.mm r.v r.ps b r.N), (31, fun x W => ∃ g b, x = .slice (some ⟨g, 0, none⟩) 1 1 ∧ g < W.heap.size ∧ W.cell? ⟨g, 0, none⟩ = some (sl (b, r.N)) ∧ Nw W r.B r.mm r.v r.ps b r.N),
  (32, fun x W => ∃ b, Ps W r.B r.mm x (r.ps ++ [(b, r.N)])), (33, is (.pointer (some ⟨r.mm, 0, none⟩))), (34, is (.pointer (some ⟨r.mm, 1, none⟩)))]
def Rd.C (r : Rd) (W : World) : Prop := Below r.B r.w0 W ∧ r.B ≤ W.heap.size ∧ ∃ u, MM W r.mm r.L u
def Rd.E (r : Rd) (j : Nat) (W : World) : Prop := j = 15 → ∃ x b, MM W r.mm r.L x ∧ Ps W r.B r.mm x (r.ps ++ [(b, r.N)])
/-- What the round begins with. -/
structure Rd.Ok (r : Rd) : Prop where
  hB : r.B ≤ r.mm
  hA : r.A.block < r.B
  hi : r.i < r.k
  hN : r.N ≤ 1048576
  hl : r.ps.length ≤ 1000
  hc : r.w0.cell? r.fld = some (.int .u64 (r.N : Int))

section
variable {r : Rd} {W W' : World}
theorem Rd.C.grown (h : r.C W) (hg : W.grownBy W' none) : r.C W' :=
  ⟨h.1.grown hg h.2.1 (fun _ e => by cases e), Nat.le_trans h.2.1 hg.size, h.2.2.imp fun u hu => hu.grown hg (by simp)⟩
theorem stay_is (c : Value) : ∀ v, is c v W → is c v W' := fun _ h => h
theorem TL_grown (hg : W.grownBy W' none) : ∀ q ∈ r.TL, ∀ v, q.2 v W → q.2 v W' := by
  have hP : ∀ c v, r.isP c v W → r.isP c v W' := fun c v h => ⟨h.1, h.2.grown hg⟩
  have hM : ∀ c v, r.isM c v W → r.isM c v W' := fun c v h => ⟨h.1, MM.grown h.2 hg (by simp)⟩
  unfold Rd.TL
  simp only [List.mem_cons, List.not_mem_nil, or_false, forall_eq_or_imp, forall_eq]
  refine ⟨hP _, hM _, stay_is _, stay_is _, hM _, hM _, hM _, stay_is _, hP _, stay_is _, hP _, hP _, hP _, ?_, ?_, ?_, stay_is _, stay_is _⟩
  · rintro v ⟨b, h1, h2⟩
    exact ⟨b, h1, h2.grown hg⟩
  · rintro v ⟨g, b, h1, h2, h3, h4⟩
    exact ⟨g, b, h1, Nat.lt_of_lt_of_le h2 hg.size, (World.cell?_of_block (hg.block g h2 (by simp))).trans h3, h4.grown hg⟩
  · rintro v ⟨b, h1⟩
    exact ⟨b, h1.grown hg⟩
theorem E_grown (hg : W.grownBy W' none) (k : Nat) (h : r.E k W) : r.E k W' := fun e => by
  obtain ⟨x, b, h1, h2⟩ := h e
  exact ⟨x, b, h1.grown hg (by simp), h2.grown hg⟩
end

abbrev no : Nat → Bool := fun _ => false

theorem m15 : Nat.testBit ((Eng.masks OPS.toList []).getD 15 0) 12 = true := by kernel_rfl
section
variable (r : Rd) (h : r.Ok) (a : Act)
theorem tr (j : Nat) (hj : j ≠ 15) (W : World) : r.E j W := fun e => absurd e hj
theorem KK (j : Nat) (W W' : World) (hg : W.grownBy W' none) : Keeps OPS (tab r.TL a) no r.E j (OPS.getD j default) W W' := keeps_tab (fun q hq => .inr (TL_grown (r := r) hg q hq)) (fun k _ _ => E_grown (r := r) hg k)
include h
set_option maxRecDepth 100000 in
set_option maxHeartbeats 1000000 in
theorem ob0 : Ob Try.prog OPS r.C (tab r.TL a) no r.E 0 (OPS.getD 0 default) := by
  refine ob_move (s := 4) (d0 := 20) (Asrt.yes_plain (by kernel_rfl)) (by kernel_rfl) (tr r 0 (by decide)) (by kernel_rfl) (fun v w h => h.1)

set_option maxRecDepth 100000 in
set_option maxHeartbeats 1000000 in
theorem ob1 : Ob Try.prog OPS r.C (tab r.TL a) no r.E 1 (OPS.getD 1 default) := by
  refine ob_move (s := 4) (d0 := 21) (Asrt.yes_plain (by kernel_rfl)) (by kernel_rfl) (tr r 1 (by decide)) (by kernel_rfl) (fun v w h => h)

set_option maxRecDepth 100000 in
set_option maxHeartbeats 1000000 in
theorem ob2 : Ob Try.prog OPS r.C (tab r.TL a) no r.E 2 (OPS.getD 2 default) := by
  refine ob_val (d0 := 22) (Asrt.yes_plain (by kernel_rfl)) (by kernel_rfl) (tr r 2 (by decide)) (fun a_ W_ hC hT => ?_)
  have e : r.isM (.pointer (some ⟨r.mm, 0, none⟩)) (a_.tmps.getD 21 undef) W_ := hT 21 (by kernel_rfl)
  exact ⟨_, x_nil e.1 (by kernel_rfl), rfl, e.2⟩
set_option maxRecDepth 100000 in
set_option maxHeartbeats 1000000 in
theorem ob3 : Ob Try.prog OPS r.C (tab r.TL a) no r.E 3 (OPS.getD 3 default) := by
  refine ob_val (d0 := 23) (Asrt.yes_plain (by kernel_rfl)) (by kernel_rfl) (tr r 3 (by decide)) (fun a_ W_ hC hT => ?_)
  have e : r.isM (.pointer (some ⟨r.mm, 0, none⟩)) (a_.tmps.getD 22 undef) W_ := hT 22 (by kernel_rfl)
  exact ⟨_, x_field e.1 (by kernel_rfl), rfl, e.2⟩
set_option maxRecDepth 100000 in
set_option maxHeartbeats 1000000 in
theorem ob4 : Ob Try.prog OPS r.C (tab r.TL a) no r.E 4 (OPS.getD 4 default) := by
  refine ob_val (d0 := 24) (Asrt.yes_plain (by kernel_rfl)) (by kernel_rfl) (tr r 4 (by decide)) (fun a_ W_ hC hT => ?_)
  have e : r.isM (.pointer (some ⟨r.mm, 1, none⟩)) (a_.tmps.getD 23 undef) W_ := hT 23 (by kernel_rfl)
  exact ⟨_, x_load e.1 (.inl rfl) (World.rowIs.cell (i := 1) e.2 (by decide)) (by kernel_rfl), rfl⟩
set_option maxRecDepth 100000 in
set_option maxHeartbeats 1000000 in
theorem ob5 : Ob Try.prog OPS r.C (tab r.TL a) no r.E 5 (OPS.getD 5 default) := by
  refine ob_move (s := 0) (d0 := 25) (Asrt.yes_plain (by kernel_rfl)) (by kernel_rfl) (tr r 5 (by decide)) (by kernel_rfl) (fun v w h => h)

set_option maxRecDepth 100000 in
set_option maxHeartbeats 1000000 in
theorem ob6 : Ob Try.prog OPS r.C (tab r.TL a) no r.E 6 (OPS.getD 6 default) := by
  refine ob_move (s := 5) (d0 := 26) (Asrt.yes_plain (by kernel_rfl)) (by kernel_rfl) (tr r 6 (by decide)) (by kernel_rfl) (fun v w h => h)

set_option maxRecDepth 100000 in
set_option maxHeartbeats 1000000 in
theorem ob7 : Ob Try.prog OPS r.C (tab r.TL a) no r.E 7 (OPS.getD 7 default) := by
  refine ob_val (d0 := 27) (Asrt.yes_plain (by kernel_rfl)) (by kernel_rfl) (tr r 7 (by decide)) (fun a_ W_ hC hT => ?_)
  have e : r.isP (.slice (some r.A) r.k r.c) (a_.tmps.getD 25 undef) W_ := hT 25 (by kernel_rfl)
  have e2 : a_.tmps.getD 26 undef = .int .i64 (r.i : Int) := hT 26 (by kernel_rfl)
  exact ⟨_, x_index e.1 e2 h.hi (by kernel_rfl), rfl, e.2⟩
set_option maxRecDepth 100000 in
set_option maxHeartbeats 1000000 in
theorem ob8 : Ob Try.prog OPS r.C (tab r.TL a) no r.E 8 (OPS.getD 8 default) := by
  refine ob_val (d0 := 28) (Asrt.yes_plain (by kernel_rfl)) (by kernel_rfl) (tr r 8 (by decide)) (fun a_ W_ hC hT => ?_)
  have e : r.isP (.pointer (some (r.A.add (r.i * 2)))) (a_.tmps.getD 27 undef) W_ := hT 27 (by kernel_rfl)
  exact ⟨_, x_field1 e.1 (by kernel_rfl), rfl, e.2⟩
set_option maxRecDepth 100000 in
set_option maxHeartbeats 1000000 in
theorem ob9 : Ob Try.prog OPS r.C (tab r.TL a) no r.E 9 (OPS.getD 9 default) := by
  refine ob_val (d0 := 29) (Asrt.yes_plain (by kernel_rfl)) (by kernel_rfl) (tr r 9 (by decide)) (fun a_ W_ hC hT => ?_)
  have e : r.isP (.pointer (some r.fld)) (a_.tmps.getD 28 undef) W_ := hT 28 (by kernel_rfl)
  exact ⟨_, x_load e.1 (.inr rfl) ((hC.1.cell (p := r.fld) (by show (r.A.add (r.i * 2)).block < _; rw [block_of_add]; exact h.hA)).trans h.hc) (by kernel_rfl), rfl, e.2⟩
set_option maxRecDepth 100000 in
set_option maxHeartbeats 1000000 in
theorem ob10 : Ob Try.prog OPS r.C (tab r.TL a) no r.E 10 (OPS.getD 10 default) := by
  refine ob_any (Asrt.yes_plain (by kernel_rfl)) (fun a_ W_ hC hT => ?_)
  have e : r.isP (.int .u64 (r.N : Int)) (a_.tmps.getD 29 undef) W_ := hT 29 (by kernel_rfl)
  obtain ⟨W', h1, h2, h3⟩ := x_make (W := W_) (o := OPS.getD 10 default) e.1 h.hN (by kernel_rfl)
  refine ⟨_, W', h1, fun d hd => ?_, hC.grown h3, tr r 10 (by decide) _, KK r a 10 _ _ h3⟩
  obtain rfl : 30 = d := Option.some.inj ((show some 30 = (OPS.getD 10 default).dst by kernel_rfl).trans hd)
  obtain ⟨u, hu⟩ := hC.2.2
  exact ⟨_, rfl, Ps.grown e.2 h3, hC.2.1, fun e => by have := hu.lt; omega, fun p hp e' => by have := ((e.2).row p hp).2.2.lt; omega, h2⟩
set_option maxRecDepth 100000 in
set_option maxHeartbeats 1000000 in
theorem ob11 : Ob Try.prog OPS r.C (tab r.TL a) no r.E 11 (OPS.getD 11 default) := by
  refine ob_any (Asrt.yes_plain (by kernel_rfl)) (fun a_ W_ hC hT => ?_)
  obtain ⟨b, e, hn⟩ : ∃ b, a_.tmps.getD 30 undef = sl (b, r.N) ∧ Nw W_ r.B r.mm r.v r.ps b r.N := hT 30 (by kernel_rfl)
  have h1 := x_build (W := W_) (o := OPS.getD 11 default) e (by kernel_rfl)
  have h3 := World.grownBy_alloc W_ (.cells #[sl (b, r.N)] 37) none
  refine ⟨_, _, h1, fun d hd => ?_, hC.grown h3, tr r 11 (by decide) _, KK r a 11 _ _ h3⟩
  obtain rfl : 31 = d := Option.some.inj ((show some 31 = (OPS.getD 11 default).dst by kernel_rfl).trans hd)
  exact ⟨_, b, rfl, by rw [World.size_alloc]; omega, (World.rowIs_alloc W_ #[sl (b, r.N)] 37 (fun _ => sl (b, r.N)) (fun i hi => by match i, hi with | 0, _ => rfl)).cell (i := 0) (by show 0 < 1; decide), hn.grown h3⟩
set_option maxRecDepth 100000 in
set_option maxHeartbeats 1000000 in
theorem ob12 : Ob Try.prog OPS r.C (tab r.TL a) no r.E 12 (OPS.getD 12 default) := by
  refine ob_any (Asrt.yes_plain (by kernel_rfl)) (fun a_ W_ hC hT => ?_)
  obtain ⟨g, b, e, hg, hc, hn⟩ : ∃ g b, a_.tmps.getD 31 undef = .slice (some ⟨g, 0, none⟩) 1 1 ∧ g < W_.heap.size ∧ W_.cell? ⟨g, 0, none⟩ = some (sl (b, r.N)) ∧ Nw W_ r.B r.mm r.v r.ps b r.N := hT 31 (by kernel_rfl)
  have e2 : a_.tmps.getD 24 undef = r.v := hT 24 (by kernel_rfl)
  obtain ⟨v', W', h1, h2, h3, h4⟩ := x_append (W := W_) (o := OPS.getD 12 default) e2 e hn.pp.own hc rfl h.hl hC.2.1 (by kernel_rfl)
  obtain ⟨u, hu⟩ := hC.2.2
  have hob : ∀ k, r.v.ownBlock = some k → r.B ≤ k := fun k e => (hn.pp.own.lt k e).1
  have hM : ∀ c v, r.isM c v W_ → r.isM c v W' := fun c v h => ⟨h.1, MM.grown h.2 h3 hn.pp.om⟩
  refine ⟨v', W', h1, fun d hd => ?_, ⟨hC.1.grown h3 hC.2.1 hob, Nat.le_trans hC.2.1 h3.size, u, hu.grown h3 hn.pp.om⟩, tr r 12 (by decide) _, keeps_tab ?_ ?_⟩
  · obtain rfl : 32 = d := Option.some.inj ((show some 32 = (OPS.getD 12 default).dst by kernel_rfl).trans hd)
    exact ⟨b, hn.append hu.lt h2 h3 h4⟩
  · unfold Rd.TL
    simp only [List.mem_cons, List.not_mem_nil, or_false, forall_eq_or_imp, forall_eq]
    exact ⟨.inl (by kernel_rfl), .inr (hM _), .inr (stay_is _), .inr (stay_is _), .inr (hM _), .inr (hM _), .inr (hM _), .inr (stay_is _), .inl (by kernel_rfl), .inr (stay_is _), .inl (by kernel_rfl), .inl (by kernel_rfl), .inl (by kernel_rfl), .inl (by kernel_rfl), .inl (by kernel_rfl), .inl (by kernel_rfl), .inr (stay_is _), .inr (stay_is _)⟩
  · intro k hk hb _ e
    subst e
    rw [m15] at hb
    cases hb
set_option maxRecDepth 100000 in
set_option maxHeartbeats 1000000 in
theorem ob13 : Ob Try.prog OPS r.C (tab r.TL a) no r.E 13 (OPS.getD 13 default) := by
  refine ob_val (d0 := 33) (Asrt.yes_plain (by kernel_rfl)) (by kernel_rfl) (tr r 13 (by decide)) (fun a_ W_ hC hT => ?_)
  have e : a_.tmps.getD 20 undef = .pointer (some ⟨r.mm, 0, none⟩) := hT 20 (by kernel_rfl)
  exact ⟨_, x_nil e (by kernel_rfl), rfl⟩
set_option maxRecDepth 100000 in
set_option maxHeartbeats 1000000 in
theorem ob14 : Ob Try.prog OPS r.C (tab r.TL a) no r.E 14 (OPS.getD 14 default) := by
  refine ob_val (d0 := 34) (Asrt.yes_plain (by kernel_rfl)) (by kernel_rfl) (tr r 14 (by decide)) (fun a_ W_ hC hT => ?_)
  have e : a_.tmps.getD 33 undef = .pointer (some ⟨r.mm, 0, none⟩) := hT 33 (by kernel_rfl)
  exact ⟨_, x_field e (by kernel_rfl), rfl⟩
set_option maxRecDepth 100000 in
set_option maxHeartbeats 1000000 in
theorem ob15 : Ob Try.prog OPS r.C (tab r.TL a) no r.E 15 (OPS.getD 15 default) := by
  refine ob_skip (Asrt.yes_plain (by kernel_rfl)) (by kernel_rfl) (fun a_ W_ hC hT => ?_)
  have e : a_.tmps.getD 34 undef = .pointer (some ⟨r.mm, 1, none⟩) := hT 34 (by kernel_rfl)
  obtain ⟨b, hp⟩ : ∃ b, Ps W_ r.B r.mm (a_.tmps.getD 32 undef) (r.ps ++ [(b, r.N)]) := hT 32 (by kernel_rfl)
  obtain ⟨A', c', he⟩ := own_slice hp.own
  obtain ⟨u, hu⟩ := hC.2.2
  rw [he] at hp
  refine ⟨_, x_store e he hu (by kernel_rfl), ⟨hC.1.setCell h.hB _, by simpa [World.setCell] using hC.2.1, _, hu.set _⟩, fun _ => ⟨_, b, hu.set _, hp.set _⟩, keeps_tab ?_ ?_⟩
  · unfold Rd.TL
    simp only [List.mem_cons, List.not_mem_nil, or_false, forall_eq_or_imp, forall_eq]
    exact ⟨.inl (by kernel_rfl), .inl (by kernel_rfl), .inr (stay_is _), .inr (stay_is _), .inl (by kernel_rfl), .inl (by kernel_rfl), .inl (by kernel_rfl), .inr (stay_is _), .inl (by kernel_rfl), .inr (stay_is _), .inl (by kernel_rfl), .inl (by kernel_rfl), .inl (by kernel_rfl), .inl (by kernel_rfl), .inl (by kernel_rfl), .inl (by kernel_rfl), .inr (stay_is _), .inr (stay_is _)⟩
  · intro k hk _ _ e
    exact absurd e hk
set_option maxRecDepth 100000 in
theorem obs : AllAt Try.prog OPS r.C (tab r.TL a) no r.E [0, 1, 2, 3, 4, 5, 6, 7, 8, 9, 10, 11, 12, 13, 14, 15] :=
  ⟨ob0 r h a, ob1 r h a, ob2 r h a, ob3 r h a, ob4 r h a, ob5 r h a, ob6 r h a, ob7 r h a, ob8 r h a, ob9 r h a, ob10 r h a, ob11 r h a, ob12 r h a, ob13 r h a, ob14 r h a, ob15 r h a, trivial⟩
end
theorem Ps.drew {W : World} {B mm : Nat} {v : Value} {ps : List (Nat × Nat)} (h : Ps W B mm v ps) : Ps W.drew B mm v ps := ⟨h.own, h.om, h.row, h.nd⟩
set_option maxRecDepth 100000 in
theorem region7 {Q : Exit → Act → World → Prop} {a : Act} {w : World} (r : Rd) (h : r.Ok) (hC : r.C w) (h0 : a.tmps.getD 0 undef = .slice (some r.A) r.k r.c) (h4 : a.tmps.getD 4 undef = .pointer (some ⟨r.mm, 0, none⟩)) (h5 : a.tmps.getD 5 undef = .int .i64 (r.i : Int))
    (hP : r.P w) (hM : r.M w) (hs : a.tmps.size = 36)
    (hQ : ∀ a' w', r.C w' → a'.tmps.size = a.tmps.size → a'.defers = a.defers → (∀ d, (OPS.toList.any fun o => o.dst == some d) = false → a'.tmps.getD d undef = a.tmps.getD d undef) →
      (∃ x b, MM w' r.mm r.L x ∧ Ps w' r.B r.mm x (r.ps ++ [(b, r.N)])) → Q .normal a' w') : (Code.region 7 OPS true).wp Try.prog Q a w := by
  refine wp_region_assert (by kernel_rfl) (by kernel_rfl) r.C r.TL no r.E ⟨hC.1.drew, hC.2.1, hC.2.2⟩ ?_ (by rw [hs]; kernel_rfl) (obs r h a) ?_
  · intro d p hf hn
    have hm := find_mem hf
    unfold Rd.TL at hm
    simp only [List.mem_cons, Prod.mk.injEq, List.not_mem_nil, or_false] at hm
    rcases hm with ⟨rfl, rfl⟩ | ⟨rfl, rfl⟩ | ⟨rfl, rfl⟩ | ⟨rfl, rfl⟩ | ⟨rfl, rfl⟩ | ⟨rfl, rfl⟩ | ⟨rfl, rfl⟩ | ⟨rfl, rfl⟩ | ⟨rfl, rfl⟩ | ⟨rfl, rfl⟩ | ⟨rfl, rfl⟩ | ⟨rfl, rfl⟩ | ⟨rfl, rfl⟩ | ⟨rfl, rfl⟩ | ⟨rfl, rfl⟩ | ⟨rfl, rfl⟩ | ⟨rfl, rfl⟩ | ⟨rfl, rfl⟩
    · exact ⟨h0, Ps.drew hP⟩
    · exact ⟨h4, World.rowIs.drew hM⟩
    · exact h5
    · rw [show (OPS.toList.any fun o => o.dst == some 20) = true from by kernel_rfl] at hn; cases hn
    · rw [show (OPS.toList.any fun o => o.dst == some 21) = true from by kernel_rfl] at hn; cases hn
    · rw [show (OPS.toList.any fun o => o.dst == some 22) = true from by kernel_rfl] at hn; cases hn
    · rw [show (OPS.toList.any fun o => o.dst == some 23) = true from by kernel_rfl] at hn; cases hn
    · rw [show (OPS.toList.any fun o => o.dst == some 24) = true from by kernel_rfl] at hn; cases hn
    · rw [show (OPS.toList.any fun o => o.dst == some 25) = true from by kernel_rfl] at hn; cases hn
    · rw [show (OPS.toList.any fun o => o.dst == some 26) = true from by kernel_rfl] at hn; cases hn
    · rw [show (OPS.toList.any fun o => o.dst == some 27) = true from by kernel_rfl] at hn; cases hn
    · rw [show (OPS.toList.any fun o => o.dst == some 28) = true from by kernel_rfl] at hn; cases hn
    · rw [show (OPS.toList.any fun o => o.dst == some 29) = true from by kernel_rfl] at hn; cases hn
    · rw [show (OPS.toList.any fun o => o.dst == some 30) = true from by kernel_rfl] at hn; cases hn
    · rw [show (OPS.toList.any fun o => o.dst == some 31) = true from by kernel_rfl] at hn; cases hn
    · rw [show (OPS.toList.any fun o => o.dst == some 32) = true from by kernel_rfl] at hn; cases hn
    · rw [show (OPS.toList.any fun o => o.dst == some 33) = true from by kernel_rfl] at hn; cases hn
    · rw [show (OPS.toList.any fun o => o.dst == some 34) = true from by kernel_rfl] at hn; cases hn
  · intro a' w' k1 k2 k3 k4 k5 k6
    exact hQ a' w' k1 k2 k3 k6 (k5 15 (by rw [show OPS.size = 16 from by kernel_rfl]; decide) rfl)
end Go.Proofs.Ytmmgcmbniidieaa.GmRefN
