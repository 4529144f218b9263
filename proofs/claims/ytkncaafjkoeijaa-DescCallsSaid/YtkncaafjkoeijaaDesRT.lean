
/- Reading tables of descriptors: the contract of ReadTable. -/
import Derived.Test.YtkncaafjkoeijaaDesIter
import Derived.Maps.AppendAt
namespace Go.Proofs.Ytkncaafjkoeijaa.DesRT
open Go.RowKit Go.Shelf Le Rw DesPut DesRead DesTab DesIter
set_option linter.unusedVariables false
set_option linter.unusedSimpArgs false
attribute [local go_sem] Oper.semAt_some

theorem rtable_bad (A : Option Addr) (n c : Nat) (w : World) (hn : n % 16 ≠ 0) (hn2 : n ≤ 9223372036854775807) : Calls Try.prog 39 #[.slice A n c] w fun e w' => e = .returned (.tuple #[.slice none 0 0, .int .i64 4]) ∧ w = w' := by
  have h1 : (((n : Int) % 16 : Int) != 0) = true := by simp; omega
  go_enter Try.func39, Try.ntmps39
  go_wp2
  go_ret2
  exact ⟨rfl, rfl⟩

/-- The descriptors of a table's bytes. -/
def tabD (g : Nat → Int) : D4 := ⟨fun i => fA (fun j => g (16 * i + j)), fun i => fL (fun j => g (16 * i + j)), fun i => fF (fun j => g (16 * i + j)), fun i => fX (fun j => g (16 * i + j))⟩
def D4.rows (d : D4) (n : Nat) : List Value := (List.range (n * 4)).map d.cell
theorem rows_succ (d : D4) (k : Nat) : D4.rows d (k + 1) = D4.rows d k ++ [.int .u64 (d.a k), .int .u32 (d.l k), .int .u16 (d.f k), .int .u16 (d.x k)] := by
  unfold D4.rows
  rw [show (k + 1) * 4 = k * 4 + 4 from by omega, List.range_add, List.map_append]
  congr 1
  show [d.cell (k * 4 + 0), d.cell (k * 4 + 1), d.cell (k * 4 + 2), d.cell (k * 4 + 3)] = _
  rw [Nat.add_zero, D4.cell0, D4.cell1, D4.cell2, D4.cell3]

/-- append within the capacity, as one step of a region that draws its order, in a round. -/
theorem step_append_fits {F : Fence} {n : Nat} {P : Program} (w : World) {ops : Array Oper} {o : Oper} {a : Act} {K : Act → World → Prop} {Q : Exit → Act → World → Prop} {X : Prop}
    (hg : o.guard = none) (s x : Operand) (t : TypeId) (hop : o.op = Op.call { callee := Callee.builtin Builtin.append, args := #[s, x], argTypes := #[t, t] })
    (base : Nat) (e : TypeId) (i : TypeInfo) (size : Nat) (h1 : P.underlying t = some (.slice e)) (h2 : P.info? e = some i) (h4 : i.size = size)
    (g k cap : Nat) (xs : List Value) (hs : a.eval s = .slice (some ⟨g, 0, none⟩) k cap) (hown : w.ownsRow base e size (.slice (some ⟨g, 0, none⟩) k cap) k xs) (ad : Addr) (m c : Nat) (news : List Value) (hx : a.eval x = .slice (some ad) m c) (hn : news.length = m * size)
    (hc : ∀ j u, news[j]? = some u → w.cell? (ad.add j) = some u) (h1c : ∀ u ∈ news, u.oneCell' = true) (b1 : k + m ≤ cap)
    (hK : ∀ w', w'.ownsRow base e size (.slice (some ⟨g, 0, none⟩) (k + m) cap) (k + m) (xs ++ news) → w.grownBy w' (some g) → K (a.put o.dst (.slice (some ⟨g, 0, none⟩) (k + m) cap)) w') :
    if Region.wanted o (yielded ops a.tmps) = true then Oper.wpIn F n P o a w K Q else X := by
  rw [if_pos (by unfold Region.wanted; rw [hg])]
  obtain ⟨w', hrun, r1, r2⟩ := run_append_fits (P := P) w base t o.type e i size h1 h2 h4 g k cap xs hown ad m c news hn hc h1c b1
  unfold Oper.wpIn
  refine ⟨?_, ?_⟩
  · simp [Oper.about, hop, resolve, Target.leads, Sem.run_pure]
  · rw [Oper.semAt_plain F _ _ (by rw [hop]; intro c hc'; cases hc')]
    simp [execOp, hop, resolve, invoke, builtin, hs, hx, hrun, Result.andThen]
    exact hK _ r1 r2
theorem own_cells {w : World} {base : Nat} {e : TypeId} {size g n cap : Nat} {xs : List Value} (h : w.ownsRow base e size (.slice (some ⟨g, 0, none⟩) n cap) n xs) : ∀ (j : Nat) (o : Obj), some g = some j → w.heap[j]? = some o → o.isCells = true := fun j o e ho => by
  cases e
  rcases h.2 with ⟨h0, _⟩ | ⟨g', cap', cur, hv, _, hh, _⟩
  · cases h0
  · injection hv with h1; injection h1 with h1; injection h1 with h1; subst h1
    rw [hh] at ho; cases ho; rfl
/-- A new row of four cells. -/
theorem cells4 (w : World) (v0 v1 v2 v3 : Value) (t : TypeId) : ∀ (j : Nat) (u : Value), ([v0, v1, v2, v3] : List Value)[j]? = some u → (w.alloc (.cells #[v0, v1, v2, v3] t)).cell? ((⟨w.heap.size, 0, none⟩ : Addr).add j) = some u := fun j u hu => by
  have hj : j < 4 := by
    rcases Nat.lt_or_ge j 4 with h | h
    · exact h
    · rw [List.getElem?_eq_none (by simpa using h)] at hu; cases hu
  have e : (⟨w.heap.size, 0, none⟩ : Addr).add j = ⟨w.heap.size, j, none⟩ := by unfold Addr.add; split <;> simp_all
  rw [e, cell_of_row _ _ _ _ _ _ (World.alloc_heap_new w (.cells #[v0, v1, v2, v3] t))]
  simpa using hu
/-- What has come, as cells. -/
def rowsP (d : D4) {N : Nat} (pre : List (Pc N)) : List Value := pre.flatMap fun x => [.int .u64 (d.a x.1), .int .u32 (d.l x.1), .int .u16 (d.f x.1), .int .u16 (d.x x.1)]
theorem rowsP_snoc (d : D4) {N : Nat} (pre : List (Pc N)) (x : Pc N) : rowsP d (pre ++ [x]) = rowsP d pre ++ [.int .u64 (d.a x.1), .int .u32 (d.l x.1), .int .u16 (d.f x.1), .int .u16 (d.x x.1)] := by
  simp [rowsP]
theorem rows_flat (d : D4) : ∀ N, D4.rows d N = (upto id N).flatMap fun x => [.int .u64 (d.a x), .int .u32 (d.l x), .int .u16 (d.f x), .int .u16 (d.x x)]
  | 0 => rfl
  | N + 1 => by rw [rows_succ, rows_flat d N, upto_succ]; simp
theorem rowsP_all (d : D4) {N : Nat} (pre : List (Pc N)) (h : pre.map (·.1) = upto id N) : rowsP d pre = D4.rows d N := by
  rw [rows_flat, ← h, List.flatMap_map]; rfl
theorem Dinfo : (Try.prog.info? 62).map (fun i => (i.zero, i.size, i.bytes)) = some (some (.agg #[.int .u64 0, .int .u32 0, .int .u16 0, .int .u16 0]), 4, 16) := by kernel_rfl

set_option maxRecDepth 100000 in
set_option maxHeartbeats 4000000 in
theorem rtable_in (A : Option Addr) (N c : Nat) (g : Nat → Int) (w : World) (hN : N ≤ 1000000) (hc : 16 * N ≤ c) (hg : Bytes g (16 * N)) (hr : IsRow w w.heap.size 1 A (16 * N) (u8F g)) :
    CallsIn Fence.wide 10 Try.prog 39 #[.slice A ((16 * N : Nat)) c] w fun e w' => ∃ v, e = .returned (.tuple #[v, .int .i64 0]) ∧ w'.ownsRow w.heap.size 62 4 v N (D4.rows (tabD g) N) ∧ Below w.heap.size w w' := by
  have h1 : (((16 * N : Nat) : Int) % 16 != 0) = false := by simp
  have h2 : ((16 * N : Nat) : Int) / 16 = N := by omega
  obtain ⟨i0, hi, hz0, hz1, hz2⟩ := info_parts Dinfo
  have H0 := Lib.hid hi
  have H1 := Lib.hid hz0
  have H2 := Lib.hid hz1
  have H3 := Lib.hid hz2
  clear hi hz0 hz1 hz2
  refine callsIn_of_wp_marks Try.func39 rfl trivial ?_ rfl
  simp only [Try.ntmps39, List.size_toArray, List.length_cons, List.length_nil, Nat.reduceAdd, Nat.reduceSub, Array.replicate_succ, Array.replicate_zero, List.push_toArray, List.append_toArray, List.nil_append, List.cons_append]
  gi_wp2_with (gi_at_make; refine wpListIn_make_own _ rfl _ _ 65 rfl w.heap.size 62 i0 (.agg #[.int .u64 0, .int .u32 0, .int .u16 0, .int .u16 0]) 4 Try.underlying65 H0.out H1.out H2.out _ _ _ N rfl rfl (by omega) (by rw [H3.out]; omega) (by unfold maxLen; omega) (Nat.le_refl _) ?_)
  intro w1 hown1 hg1
  have hs1 := (hown1.lt _ rfl).2
  have hb1 : Below w.heap.size w w1 := (Below.refl _ w).grown hg1 (Nat.le_refl _) (fun k e => by cases e)
  have hmine1 := hown1.alloc (.cells #[.slice (some ⟨w.heap.size, 0, none⟩) 0 N] 65)
  gi_wp2_with fail
  refine ⟨trivial, (chunk_in 9 A _ c _).mono ?_⟩
  rintro e w' ⟨rfl, rfl⟩
  have cs := Boxed.new (w1.alloc (.cells #[.slice (some ⟨w.heap.size, 0, none⟩) 0 N] 65)) 37 (.slice A (16 * N) c)
  have cn := Boxed.new ((w1.alloc (.cells #[.slice (some ⟨w.heap.size, 0, none⟩) 0 N] 65)).alloc (.cells #[.slice A (16 * N) c] 37)) 3 (.int .i64 16)
  have cb := Boxed.new w1 65 (.slice (some ⟨w.heap.size, 0, none⟩) 0 N)
  gi_wp2_with fail
  refine wpIn_rangeFunc_ownF rfl (by omega) (gf := 126) (lb := #[.pointer (some ⟨w1.heap.size + 1, 0, none⟩), .pointer (some ⟨w1.heap.size + 2, 0, none⟩)]) rfl trivial (enters_of Try.func126 (by kernel_rfl) rfl)
    (chunk_stops 9 (w1.heap.size + 1) (w1.heap.size + 2) N c A hN hc _ (by simp) (by simp) ?hA ?hBs ?hBn) (fun h k => h.trans k) (fun W l o o' h _ _ _ => KB.put W l o' (by simp at h; omega) (by simp at h; omega)) (Below.refl _ _) (fun _ => rfl)
    (fun pre W => (∃ v, Boxed W w1.heap.size 65 v ∧ v = .slice (some ⟨w.heap.size, 0, none⟩) pre.length N ∧ W.ownsRow w.heap.size 62 4 v pre.length (rowsP (tabD g) pre)) ∧ Below w.heap.size w W ∧ w1.heap.size + 3 ≤ W.heap.size)
    (fun _ _ _ => False)
    ?hI (fun _ _ _ _ _ hs _ _ => hs) ?h0
    (fun x => { tmps := #[.slice A (16 * N) c, undef, .slice none 0 0, .int .i64 0, .pointer (some ⟨w1.heap.size, 0, none⟩), .slice (Option.map (fun ad => ad.add (16 * x.1)) A) 16 16, undef, .slice A (16 * N) c, .int .i64 (16 * (N : Int)), .int .i64 0, .bool false, .slice A (16 * N) c, .int .i64 (16 * (N : Int)), .int .i64 N, .slice (some ⟨w.heap.size, 0, none⟩) 0 N, .slice A (16 * N) c, .func (.func 126) #[] #[.pointer (some ⟨w1.heap.size + 1, 0, none⟩), .pointer (some ⟨w1.heap.size + 1 + 1, 0, none⟩)], .slice (Option.map (fun ad => ad.add (16 * x.1)) A) 16 16, undef, undef, undef, undef, undef, undef, undef, undef], defers := [] }) ?assign ?body ?done ?stop
  case stop => 
    rintro D c pre W _ _ h _
    exact h.elim
  case assign =>
    intro l x W K hK
    gi_wp2
    exact hK
  case hA => exact fun h => by obtain ⟨ad, e, _⟩ := hr (by omega); exact ⟨ad, e⟩
  case hBs => have := (cs.alloc (.cells #[.int .i64 16] 3)).cell; rwa [World.size_alloc] at this
  case hBn => have := cn.cell; rwa [World.size_alloc, World.size_alloc] at this
  case h0 => exact ⟨⟨_, (cb.alloc _).alloc _, rfl, (hmine1.alloc _).alloc _⟩, ((hb1.alloc hb1.size _).alloc (by simp; omega) _).alloc (by simp; omega) _, by simp⟩
  case hI =>
    intro pre X Y row hs hg' hr'
    obtain ⟨⟨v, hbx, rfl, how⟩, hbl, h3⟩ := hs
    refine ⟨⟨_, hbx.kept hg' (fun e => ?_), rfl, how.kept hg' (.inr fun e => ?_)⟩, hbl.grown hg' hbl.size (fun k e => ?_), Nat.le_trans h3 hg'.size⟩
    · have := (hr' _ e.symm).1; simp only [World.size_alloc] at this; omega
    · have := (hr' _ (by rw [← e]; rfl)).1; simp at this; omega
    · have := (hr' _ e).1; simp at this; omega
  case body =>
    rintro l pre ⟨x, hx⟩ W ⟨⟨v, hbx, rfl, how⟩, hbl, h3⟩ hlen
    obtain ⟨ad, rfl, hadb, hcell⟩ := hr (by omega)
    have hcw : ∀ j, j < 16 → W.cell? ((ad.add (16 * x)).add j) = some (.int .u8 (g (16 * x + j))) := fun j hj => by
      rw [add_of_add]
      exact (hbl.cell (p := ad.add (16 * x + j)) (by rw [block_of_add]; exact hadb)).trans (hcell _ (by omega))
    obtain ⟨ax, hax⟩ : ∃ ax, ad.add (16 * x) = ax := ⟨_, rfl⟩
    have haxb : ax.block < w.heap.size := by rw [← hax, block_of_add]; exact hadb
    simp only [Option.map_some, hax] at hcw ⊢
    clear hax
    have hbs := hbl.size
    have hbxl := hbx.lt
    have haW : ax.block < W.heap.size := by omega
    have ha := fun W => run_arrayAt (P := Try.prog) W 128 5 16 (some ax) 16 16 Try.underlying128 (by omega)
    have h50 : W.cell? ax = some (.int .u8 (g (16 * x + 0))) := hcw 0 (by omega)
    have h51 : W.cell? ⟨ax.block, ax.off + 1, none⟩ = some (.int .u8 (g (16 * x + 1))) := hcw 1 (by omega)
    have h52 : W.cell? ⟨ax.block, ax.off + 2, none⟩ = some (.int .u8 (g (16 * x + 2))) := hcw 2 (by omega)
    have h53 : W.cell? ⟨ax.block, ax.off + 3, none⟩ = some (.int .u8 (g (16 * x + 3))) := hcw 3 (by omega)
    have h54 : W.cell? ⟨ax.block, ax.off + 4, none⟩ = some (.int .u8 (g (16 * x + 4))) := hcw 4 (by omega)
    have h55 : W.cell? ⟨ax.block, ax.off + 5, none⟩ = some (.int .u8 (g (16 * x + 5))) := hcw 5 (by omega)
    have h56 : W.cell? ⟨ax.block, ax.off + 6, none⟩ = some (.int .u8 (g (16 * x + 6))) := hcw 6 (by omega)
    have h57 : W.cell? ⟨ax.block, ax.off + 7, none⟩ = some (.int .u8 (g (16 * x + 7))) := hcw 7 (by omega)
    have h58 : W.cell? ⟨ax.block, ax.off + 8, none⟩ = some (.int .u8 (g (16 * x + 8))) := hcw 8 (by omega)
    have h59 : W.cell? ⟨ax.block, ax.off + 9, none⟩ = some (.int .u8 (g (16 * x + 9))) := hcw 9 (by omega)
    have h60 : W.cell? ⟨ax.block, ax.off + 10, none⟩ = some (.int .u8 (g (16 * x + 10))) := hcw 10 (by omega)
    have h61 : W.cell? ⟨ax.block, ax.off + 11, none⟩ = some (.int .u8 (g (16 * x + 11))) := hcw 11 (by omega)
    have h62 : W.cell? ⟨ax.block, ax.off + 12, none⟩ = some (.int .u8 (g (16 * x + 12))) := hcw 12 (by omega)
    have h63 : W.cell? ⟨ax.block, ax.off + 13, none⟩ = some (.int .u8 (g (16 * x + 13))) := hcw 13 (by omega)
    have h64 : W.cell? ⟨ax.block, ax.off + 14, none⟩ = some (.int .u8 (g (16 * x + 14))) := hcw 14 (by omega)
    have h65 : W.cell? ⟨ax.block, ax.off + 15, none⟩ = some (.int .u8 (g (16 * x + 15))) := hcw 15 (by omega)
    clear hcw
    have hbc := hbx.cell
    have hbf := hbx.frozen
    have hmx : Try.prog.follows .mixedOrders = true := by kernel_rfl
    gi_wp2_with fail
    have r16 : (W.alloc (.cells #[.int .u8 (g (16 * x)), .int .u8 (g (16 * x + 1)), .int .u8 (g (16 * x + 2)), .int .u8 (g (16 * x + 3)), .int .u8 (g (16 * x + 4)), .int .u8 (g (16 * x + 5)), .int .u8 (g (16 * x + 6)), .int .u8 (g (16 * x + 7)), .int .u8 (g (16 * x + 8)), .int .u8 (g (16 * x + 9)), .int .u8 (g (16 * x + 10)), .int .u8 (g (16 * x + 11)), .int .u8 (g (16 * x + 12)), .int .u8 (g (16 * x + 13)), .int .u8 (g (16 * x + 14)), .int .u8 (g (16 * x + 15))] 128)).rowIs W.heap.size 128 16 (u8F fun j => g (16 * x + j)) := row16 (fun j => g (16 * x + j)) W
    have hgx : Bytes (fun j => g (16 * x + j)) 16 := fun j hj => hg _ (by omega)
    have R16 := Lib.hid r16
    have HG := Lib.hid hgx
    clear r16 hgx
    refine wpIn_region_any hmx ?_
    change wpAnyIn _ _ _ _ _ _ _ _ _ (World.drew _)
    refine wpAnyIn_ready (rs := [0, 1]) (by kernel_rfl) (by simp) (AllReadyIn.cons rfl (fun K1 hK1 => ?_) (AllReadyIn.cons rfl (fun K1 hK1 => ?_) AllReadyIn.nil))
    · go_simp
      refine hK1 _ _ ?_
      clear hK1 K1
      refine wpAnyIn_ready (rs := [1]) (by kernel_rfl) (by simp) (AllReadyIn.cons rfl (fun K2 hK2 => ?_) AllReadyIn.nil)
      go_simp
      refine ⟨trivial, ?_⟩
      (with_reducible refine (CallsIn.inRound l (callsIn_wide.2 (desc_any _ _ _ HG.out (R16.out.drew)))).mono ?_)
      rintro e W1 ⟨rfl, hB1⟩
      have gB : W.grownBy W1 none := only_trans (World.grownBy_alloc W _ none) (only_trans (only_drew (World.grownBy.refl _ none)) (only_of_below hB1 none))
      have hbx1 := hbx.kept gB (by simp)
      have hbc1 := hbx1.cell
      have hbf1 := hbx1.frozen
      have how1 := how.kept gB (.inr (by simp [Value.ownBlock]))
      have hz1 := gB.size
      have hlt1 := hbx1.lt
      clear hbc hbf hB1
      go_simp
      refine hK2 _ _ ?_
      clear hK2 K2
      refine wpAnyIn_ready (rs := [2]) (by kernel_rfl) (by simp) (AllReadyIn.cons rfl (fun K3 hK3 => ?_) AllReadyIn.nil)
      go_simp
      refine hK3 _ _ ?_
      clear hK3 K3
      refine wpAnyIn_ready (rs := [3]) (by kernel_rfl) (by simp) (AllReadyIn.cons rfl (fun K4 hK4 => ?_) AllReadyIn.nil)
      refine step_append_fits _ rfl _ _ 65 rfl w.heap.size 62 i0 4 Try.underlying65 H0.out H2.out w.heap.size pre.length N (rowsP (tabD g) pre) rfl (how1.alloc _) ⟨W1.heap.size, 0, none⟩ 1 1 [.int .u64 ((tabD g).a x), .int .u32 ((tabD g).l x), .int .u16 ((tabD g).f x), .int .u16 ((tabD g).x x)] rfl rfl (cells4 _ _ _ _ _ _) (by simp [Value.oneCell']) (by omega) ?_
      intro W3 how3 g3
      refine hK4 _ _ ?_
      clear hK4 K4
      have hbx3 := ((hbx1.alloc (.cells #[.int .u64 ((tabD g).a x), .int .u32 ((tabD g).l x), .int .u16 ((tabD g).f x), .int .u16 ((tabD g).x x)] 62)).kept g3 (by simp; omega))
      have hbc3 := hbx3.cell
      have hbf3 := hbx3.frozen
      refine wpAnyIn_ready (rs := [4]) (by kernel_rfl) (by simp) (AllReadyIn.cons rfl (fun K5 hK5 => ?_) AllReadyIn.nil)
      go_simp
      refine hK5 _ _ ?_
      clear hK5 K5
      refine wpAnyIn_done (by kernel_rfl) ?_ _
      have hB2 : Below w.heap.size w (W3.setCell ⟨w1.heap.size, 0, none⟩ (.slice (some ⟨w.heap.size, 0, none⟩) (pre.length + 1) N)) := (((hbl.grown gB hbl.size (fun k e => by cases e)).alloc (by omega) _).grown g3 (by simp; omega) (fun k e => by cases e; exact Nat.le_refl _)).setCell (p := ⟨w1.heap.size, 0, none⟩) (by simp; omega) _
      have hheap : ∀ k, k < W.heap.size → k ≠ w.heap.size → k ≠ w1.heap.size → (W3.setCell ⟨w1.heap.size, 0, none⟩ (.slice (some ⟨w.heap.size, 0, none⟩) (pre.length + 1) N)).heap[k]? = W.heap[k]? := fun k h1 h2 h3 =>
        (Below.heap_setCell _ ⟨w1.heap.size, 0, none⟩ _ k h3).trans ((g3.block k (by simp; omega) (fun e => by cases e; exact h2 rfl)).trans ((Below.heap_alloc W1 _ k (by omega)).trans (gB.block k h1 (by simp))))
      have hrow := (how3.kept (grownBy_setCell' W3 w1.heap.size (.slice (some ⟨w.heap.size, 0, none⟩) (pre.length + 1) N)) (.inr (by simp [Value.ownBlock]; omega)))
      refine ⟨((KeepsOthers.of_grownBy gB (fun j o e => by cases e)).trans ((KeepsOthers.alloc _ _).trans ((KeepsOthers.of_grownBy g3 (own_cells (how1.alloc _))).trans (KeepsOthers.setCell _ _ _)))), ⟨World.cell?_of_block (hheap (w1.heap.size + 1) (by omega) (by omega) (by omega)), World.cell?_of_block (hheap (w1.heap.size + 2) (by omega) (by omega) (by omega))⟩, ⟨_, hbx3.set _, by simp, ?_⟩, hB2, by have := hB2.size; have := g3.size; simp at this ⊢; omega⟩
      rw [rowsP_snoc, List.length_append]
      exact hrow
    · go_simp
      refine ⟨trivial, ?_⟩
      (with_reducible refine (CallsIn.inRound l (callsIn_wide.2 (desc_any _ _ _ HG.out (R16.out.drew)))).mono ?_)
      rintro e W1 ⟨rfl, hB1⟩
      have gB : W.grownBy W1 none := only_trans (World.grownBy_alloc W _ none) (only_trans (only_drew (World.grownBy.refl _ none)) (only_of_below hB1 none))
      have hbx1 := hbx.kept gB (by simp)
      have hbc1 := hbx1.cell
      have hbf1 := hbx1.frozen
      have how1 := how.kept gB (.inr (by simp [Value.ownBlock]))
      have hz1 := gB.size
      have hlt1 := hbx1.lt
      clear hbc hbf hB1
      go_simp
      refine hK1 _ _ ?_
      clear hK1 K1
      refine wpAnyIn_ready (rs := [0, 2]) (by kernel_rfl) (by simp) (AllReadyIn.cons rfl (fun K2 hK2 => ?_) (AllReadyIn.cons rfl (fun K2 hK2 => ?_) AllReadyIn.nil))
      · go_simp
        refine hK2 _ _ ?_
        clear hK2 K2
        refine wpAnyIn_ready (rs := [2]) (by kernel_rfl) (by simp) (AllReadyIn.cons rfl (fun K3 hK3 => ?_) AllReadyIn.nil)
        go_simp
        refine hK3 _ _ ?_
        clear hK3 K3
        refine wpAnyIn_ready (rs := [3]) (by kernel_rfl) (by simp) (AllReadyIn.cons rfl (fun K4 hK4 => ?_) AllReadyIn.nil)
        refine step_append_fits _ rfl _ _ 65 rfl w.heap.size 62 i0 4 Try.underlying65 H0.out H2.out w.heap.size pre.length N (rowsP (tabD g) pre) rfl (how1.alloc _) ⟨W1.heap.size, 0, none⟩ 1 1 [.int .u64 ((tabD g).a x), .int .u32 ((tabD g).l x), .int .u16 ((tabD g).f x), .int .u16 ((tabD g).x x)] rfl rfl (cells4 _ _ _ _ _ _) (by simp [Value.oneCell']) (by omega) ?_
        intro W3 how3 g3
        refine hK4 _ _ ?_
        clear hK4 K4
        have hbx3 := ((hbx1.alloc (.cells #[.int .u64 ((tabD g).a x), .int .u32 ((tabD g).l x), .int .u16 ((tabD g).f x), .int .u16 ((tabD g).x x)] 62)).kept g3 (by simp; omega))
        have hbc3 := hbx3.cell
        have hbf3 := hbx3.frozen
        refine wpAnyIn_ready (rs := [4]) (by kernel_rfl) (by simp) (AllReadyIn.cons rfl (fun K5 hK5 => ?_) AllReadyIn.nil)
        go_simp
        refine hK5 _ _ ?_
        clear hK5 K5
        refine wpAnyIn_done (by kernel_rfl) ?_ _
        have hB2 : Below w.heap.size w (W3.setCell ⟨w1.heap.size, 0, none⟩ (.slice (some ⟨w.heap.size, 0, none⟩) (pre.length + 1) N)) := (((hbl.grown gB hbl.size (fun k e => by cases e)).alloc (by omega) _).grown g3 (by simp; omega) (fun k e => by cases e; exact Nat.le_refl _)).setCell (p := ⟨w1.heap.size, 0, none⟩) (by simp; omega) _
        have hheap : ∀ k, k < W.heap.size → k ≠ w.heap.size → k ≠ w1.heap.size → (W3.setCell ⟨w1.heap.size, 0, none⟩ (.slice (some ⟨w.heap.size, 0, none⟩) (pre.length + 1) N)).heap[k]? = W.heap[k]? := fun k h1 h2 h3 =>
          (Below.heap_setCell _ ⟨w1.heap.size, 0, none⟩ _ k h3).trans ((g3.block k (by simp; omega) (fun e => by cases e; exact h2 rfl)).trans ((Below.heap_alloc W1 _ k (by omega)).trans (gB.block k h1 (by simp))))
        have hrow := (how3.kept (grownBy_setCell' W3 w1.heap.size (.slice (some ⟨w.heap.size, 0, none⟩) (pre.length + 1) N)) (.inr (by simp [Value.ownBlock]; omega)))
        refine ⟨((KeepsOthers.of_grownBy gB (fun j o e => by cases e)).trans ((KeepsOthers.alloc _ _).trans ((KeepsOthers.of_grownBy g3 (own_cells (how1.alloc _))).trans (KeepsOthers.setCell _ _ _)))), ⟨World.cell?_of_block (hheap (w1.heap.size + 1) (by omega) (by omega) (by omega)), World.cell?_of_block (hheap (w1.heap.size + 2) (by omega) (by omega) (by omega))⟩, ⟨_, hbx3.set _, by simp, ?_⟩, hB2, by have := hB2.size; have := g3.size; simp at this ⊢; omega⟩
        rw [rowsP_snoc, List.length_append]
        exact hrow
      · go_simp
        refine hK2 _ _ ?_
        clear hK2 K2
        refine wpAnyIn_ready (rs := [0]) (by kernel_rfl) (by simp) (AllReadyIn.cons rfl (fun K3 hK3 => ?_) AllReadyIn.nil)
        go_simp
        refine hK3 _ _ ?_
        clear hK3 K3
        refine wpAnyIn_ready (rs := [3]) (by kernel_rfl) (by simp) (AllReadyIn.cons rfl (fun K4 hK4 => ?_) AllReadyIn.nil)
        refine step_append_fits _ rfl _ _ 65 rfl w.heap.size 62 i0 4 Try.underlying65 H0.out H2.out w.heap.size pre.length N (rowsP (tabD g) pre) rfl (how1.alloc _) ⟨W1.heap.size, 0, none⟩ 1 1 [.int .u64 ((tabD g).a x), .int .u32 ((tabD g).l x), .int .u16 ((tabD g).f x), .int .u16 ((tabD g).x x)] rfl rfl (cells4 _ _ _ _ _ _) (by simp [Value.oneCell']) (by omega) ?_
        intro W3 how3 g3
        refine hK4 _ _ ?_
        clear hK4 K4
        have hbx3 := ((hbx1.alloc (.cells #[.int .u64 ((tabD g).a x), .int .u32 ((tabD g).l x), .int .u16 ((tabD g).f x), .int .u16 ((tabD g).x x)] 62)).kept g3 (by simp; omega))
        have hbc3 := hbx3.cell
        have hbf3 := hbx3.frozen
        refine wpAnyIn_ready (rs := [4]) (by kernel_rfl) (by simp) (AllReadyIn.cons rfl (fun K5 hK5 => ?_) AllReadyIn.nil)
        go_simp
        refine hK5 _ _ ?_
        clear hK5 K5
        refine wpAnyIn_done (by kernel_rfl) ?_ _
        have hB2 : Below w.heap.size w (W3.setCell ⟨w1.heap.size, 0, none⟩ (.slice (some ⟨w.heap.size, 0, none⟩) (pre.length + 1) N)) := (((hbl.grown gB hbl.size (fun k e => by cases e)).alloc (by omega) _).grown g3 (by simp; omega) (fun k e => by cases e; exact Nat.le_refl _)).setCell (p := ⟨w1.heap.size, 0, none⟩) (by simp; omega) _
        have hheap : ∀ k, k < W.heap.size → k ≠ w.heap.size → k ≠ w1.heap.size → (W3.setCell ⟨w1.heap.size, 0, none⟩ (.slice (some ⟨w.heap.size, 0, none⟩) (pre.length + 1) N)).heap[k]? = W.heap[k]? := fun k h1 h2 h3 =>
          (Below.heap_setCell _ ⟨w1.heap.size, 0, none⟩ _ k h3).trans ((g3.block k (by simp; omega) (fun e => by cases e; exact h2 rfl)).trans ((Below.heap_alloc W1 _ k (by omega)).trans (gB.block k h1 (by simp))))
        have hrow := (how3.kept (grownBy_setCell' W3 w1.heap.size (.slice (some ⟨w.heap.size, 0, none⟩) (pre.length + 1) N)) (.inr (by simp [Value.ownBlock]; omega)))
        refine ⟨((KeepsOthers.of_grownBy gB (fun j o e => by cases e)).trans ((KeepsOthers.alloc _ _).trans ((KeepsOthers.of_grownBy g3 (own_cells (how1.alloc _))).trans (KeepsOthers.setCell _ _ _)))), ⟨World.cell?_of_block (hheap (w1.heap.size + 1) (by omega) (by omega) (by omega)), World.cell?_of_block (hheap (w1.heap.size + 2) (by omega) (by omega) (by omega))⟩, ⟨_, hbx3.set _, by simp, ?_⟩, hB2, by have := hB2.size; have := g3.size; simp at this ⊢; omega⟩
        rw [rowsP_snoc, List.length_append]
        exact hrow
  case done =>
    rintro D xs W hD hS ⟨⟨v, hbx, rfl, how⟩, hbl, h3⟩ hK
    have hl : xs.length = N := by have := congrArg List.length hS; rwa [List.length_map, upto_length] at this
    rw [rowsP_all _ _ hS, hl] at how
    rw [hl] at hbx
    have hbc := hbx.cell
    gi_wp2
    refine ⟨by simp, .inl ⟨_, _, rfl, run_takeDeferred hK, ?_⟩⟩
    refine ⟨_, results_tmp2 rfl _ _ _, _, rfl, ?_, ?_⟩
    · exact how.kept (grownBy_putObj' W D _) (.inr (by simp only [World.size_alloc] at hD; simp [Value.ownBlock]; omega))
    · exact hbl.grown (grownBy_putObj' W D _) hbl.size (fun k e => by cases e; simp only [World.size_alloc] at hD; omega)

theorem rtable_any (A : Option Addr) (N c : Nat) (g : Nat → Int) (w : World) (hN : N ≤ 1000000) (hc : 16 * N ≤ c) (hg : Bytes g (16 * N)) (hr : IsRow w w.heap.size 1 A (16 * N) (u8F g)) :
    Calls Try.prog 39 #[.slice A ((16 * N : Nat)) c] w fun e w' => ∃ v, e = .returned (.tuple #[v, .int .i64 0]) ∧ w'.ownsRow w.heap.size 62 4 v N (D4.rows (tabD g) N) ∧ Below w.heap.size w w' :=
  callsIn_wide.1 (rtable_in A N c g w hN hc hg hr)

end Go.Proofs.Ytkncaafjkoeijaa.DesRT
