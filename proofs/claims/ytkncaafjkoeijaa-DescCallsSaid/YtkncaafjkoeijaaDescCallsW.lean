/- The law DescCalls, its walk: descriptors, used elements and events are encoded and read as the document says. For every input; no condition. -/
import Derived.Test.YtkncaafjkoeijaaDescCallsR14
namespace Go.Proofs.Ytkncaafjkoeijaa.DescCallsW
open Go.ChangeShapes Go.WideShapes Go.ChangeAt Go.RowKit Le Rw DesPut DesRead DesTab DesRT DesWord DesArgs DesR1 DesR2 DesR3 DescFieldsA DescCallsA DesBits Des
set_option linter.unusedVariables false
set_option linter.unusedSimpArgs false

theorem cells22 (W : World) (u1 u2 v1 v2 : Value) (t1 t2 : TypeId) :
    (((W.alloc (.cells #[u1, u2] t1)).alloc (.cells #[v1, v2] t2)).cell? ⟨W.heap.size, 0, none⟩ = some u1 ∧ ((W.alloc (.cells #[u1, u2] t1)).alloc (.cells #[v1, v2] t2)).cell? ⟨W.heap.size, 1, none⟩ = some u2 ∧
     ((W.alloc (.cells #[u1, u2] t1)).alloc (.cells #[v1, v2] t2)).cell? ⟨W.heap.size + 1, 0, none⟩ = some v1 ∧ ((W.alloc (.cells #[u1, u2] t1)).alloc (.cells #[v1, v2] t2)).cell? ⟨W.heap.size + 1, 1, none⟩ = some v2) ∧
    (((W.alloc (.cells #[u1, u2] t1)).alloc (.cells #[v1, v2] t2)).frozen? ⟨W.heap.size, 0, none⟩ = false ∧ ((W.alloc (.cells #[u1, u2] t1)).alloc (.cells #[v1, v2] t2)).frozen? ⟨W.heap.size, 1, none⟩ = false ∧
     ((W.alloc (.cells #[u1, u2] t1)).alloc (.cells #[v1, v2] t2)).frozen? ⟨W.heap.size + 1, 0, none⟩ = false ∧ ((W.alloc (.cells #[u1, u2] t1)).alloc (.cells #[v1, v2] t2)).frozen? ⟨W.heap.size + 1, 1, none⟩ = false) := by
  refine ⟨⟨?_, ?_, ?_, ?_⟩, ?_, ?_, ?_, ?_⟩
  all_goals first | go_cell | (go_simp; done) | (simp; done) | (simp [World.cell?, World.frozen?, World.alloc, Array.getElem?_push]; done)
theorem open_u8s {W : World} {v : Value} {zs : List Int} (h : Args.IsInts W .u8 v zs) : ∃ (A : Option Addr) (c : Nat), v = .slice A zs.length c ∧ zs.length ≤ c ∧ c ≤ maxLen ∧ IsRow W W.heap.size 1 A zs.length (u8F fun j => zs.getD j 0) ∧ (A = none → zs.length = 0 ∧ c = 0) ∧ ∀ z ∈ zs, 0 ≤ z ∧ z ≤ 255 := by
  rcases h with ⟨rfl, rfl⟩ | ⟨a, cap, rfl, h1, h2, h3, h4⟩
  · exact ⟨none, 0, rfl, Nat.le_refl _, by decide, IsRow.none_, fun _ => ⟨rfl, rfl⟩, fun z hz => (by cases hz)⟩
  · refine ⟨some a, cap, rfl, h1, h2, fun hn => ⟨a, rfl, (h3 0 hn).2, fun j hj => (h3 j (by omega)).1⟩, fun e => (by cases e), fun z hz => ?_⟩
    exact bounds_u8 (h4 z hz)
theorem rowAt {w W : World} {s n : Nat} {A : Option Addr} {F : Nat → Value} (h : IsRow w w.heap.size s A n F) (hb : Below w.heap.size w W) : IsRow W W.heap.size s A n F := (h.below hb).more hb.size

set_option maxRecDepth 100000 in
set_option maxHeartbeats 4000000 in
theorem walk_long (a l f x pa pl pf px wd fl : Int) (wr us : Bool) (B A : Option Addr) (m cb n c : Nat) (w : World) (h : 5000 < m) (h2 : m ≤ 9223372036854775807) : Calls Try.prog 6 #[descV a l f x, descV pa pl pf px, .int .u64 wd, .slice B m cb, .slice A n c, .int .u16 fl, .bool wr, .bool us] w (Lib.True1 w.heap.size w) := by
  unfold Lib.True1
  have hb0 : Below w.heap.size w w := Below.refl _ _
  have h1 : decide ((5000 : Int) < (m : Int)) = true := decide_eq_true (by omega)
  clear h
  go_enter Try.func6, Try.ntmps6
  go_wp2_with fail
  refine (Des.lives_any _).mono ?_
  rintro eE W1 ⟨rfl, hg1⟩
  have hb1 : Below w.heap.size w W1 := (show Below w.heap.size w _ by go_grown).trans (hg1.mono (by first | omega | go_size))
  obtain ⟨hc1, hf1⟩ := bcell hg1
  have hs1 := hg1.size
  try simp only [World.size_alloc, World.size_setCell, World.size_drew] at hs1
  clear hg1 hc1 hf1
  go_wp2_with fail
  go_ret
  exact ⟨rfl, by go_grown⟩
set_option maxRecDepth 100000 in
set_option maxHeartbeats 4000000 in
theorem walk_many (a l f x pa pl pf px wd fl : Int) (wr us : Bool) (B A : Option Addr) (m cb n c : Nat) (w : World) (hm : m ≤ 5000) (h : 300 < n) (h2 : n ≤ 9223372036854775807) : Calls Try.prog 6 #[descV a l f x, descV pa pl pf px, .int .u64 wd, .slice B m cb, .slice A n c, .int .u16 fl, .bool wr, .bool us] w (Lib.True1 w.heap.size w) := by
  unfold Lib.True1
  have hb0 : Below w.heap.size w w := Below.refl _ _
  have h1 : decide ((5000 : Int) < (m : Int)) = false := decide_eq_false (by omega)
  have h3 : decide ((300 : Int) < (n : Int)) = true := decide_eq_true (by omega)
  clear h hm
  go_enter Try.func6, Try.ntmps6
  go_wp2_with fail
  refine (Des.lives_any _).mono ?_
  rintro eE W1 ⟨rfl, hg1⟩
  have hb1 : Below w.heap.size w W1 := (show Below w.heap.size w _ by go_grown).trans (hg1.mono (by first | omega | go_size))
  obtain ⟨hc1, hf1⟩ := bcell hg1
  have hs1 := hg1.size
  try simp only [World.size_alloc, World.size_setCell, World.size_drew] at hs1
  clear hg1 hc1 hf1
  go_wp2_with fail
  go_ret
  exact ⟨rfl, by go_grown⟩

set_option maxRecDepth 100000 in
set_option maxHeartbeats 16000000 in
theorem walk_ok (a l f x pa pl pf px wd fl : Int) (wr us : Bool) (B A : Option Addr) (m cb n c : Nat) (g : Nat → Int) (d : D4) (w : World) (hA : DescIn a l f x) (hP : DescIn pa pl pf px) (hw : 0 ≤ wd ∧ wd ≤ 18446744073709551615)
    (hm : m ≤ 5000) (hcb : m ≤ cb) (hcb2 : cb ≤ maxLen) (hB : B = none → m = 0 ∧ cb = 0) (hg : Bytes g m) (hr : IsRow w w.heap.size 1 B m (u8F g)) (hn : n ≤ 300) (hd : d.In n) (hl : IsRow w w.heap.size 4 A n d.cell) :
    Calls Try.prog 6 #[descV a l f x, descV pa pl pf px, .int .u64 wd, .slice B m cb, .slice A n c, .int .u16 fl, .bool wr, .bool us] w (Lib.True1 w.heap.size w) := by
  unfold Lib.True1
  have hb0 : Below w.heap.size w w := Below.refl _ _
  obtain ⟨ra, rl, rf, rx, re, hrd⟩ := rd_some g m
  obtain ⟨N, te, htb, hN⟩ := tb_some m
  have h1 : decide ((5000 : Int) < (m : Int)) = false := decide_eq_false (by omega)
  have h3 : decide ((300 : Int) < (n : Int)) = false := decide_eq_false (by omega)
  have HRD := Lib.hid hrd
  have HTB := Lib.hid htb
  have HG := Lib.hid hg
  have HB := Lib.hid hr
  have HN := Lib.hid hB
  have HL := Lib.hid hl
  have HD := Lib.hid hd
  have HA := Lib.hid hA
  have HP := Lib.hid hP
  clear hrd htb hg hr hB hl hd hA hP
  obtain ⟨ui, hui⟩ : ∃ ui, wd % 4294967296 = ui := ⟨_, rfl⟩
  obtain ⟨un, hun⟩ : ∃ un, wd / 4294967296 = un := ⟨_, rfl⟩
  obtain ⟨ei, hei⟩ : ∃ ei, wd % 65536 = ei := ⟨_, rfl⟩
  obtain ⟨en, hen⟩ : ∃ en, wd / 65536 % 65536 = en := ⟨_, rfl⟩
  have HE := Lib.hid (And.intro hui (And.intro hun (And.intro hei hen)))
  have R12 := Lib.hid (fun W => by have := r_readUsed wd hw.1 hw.2 W; rwa [hui, hun] at this : ∀ W, Calls Try.prog 42 #[.int .u64 wd] W (Gives W.heap.size W (.agg #[.int .u32 ui, .int .u32 un])))
  have R13 := Lib.hid (fun W => by have := r_readEvent wd hw.1 hw.2 W; rwa [hei, hen] at this : ∀ W, Calls Try.prog 43 #[.int .u64 wd] W (Gives W.heap.size W (.agg #[.int .u16 ei, .int .u16 en])))
  clear hui hun hei hen
  go_enter Try.func6, Try.ntmps6
  go_wp2_with fail
  refine (Des.lives_any _).mono ?_
  rintro eE W1 ⟨rfl, hg1⟩
  have hb1 : Below w.heap.size w W1 := (show Below w.heap.size w _ by go_grown).trans (hg1.mono (by first | omega | go_size))
  obtain ⟨hc1, hf1⟩ := bcell hg1
  have hs1 := hg1.size
  try simp only [World.size_alloc, World.size_setCell, World.size_drew] at hs1
  have hl1_0_0 : W1.cell? ⟨w.heap.size, 0, none⟩ = some (.int .u64 a) := (hc1 _ _ (by first | omega | go_size)).trans (by first | (with_reducible assumption) | go_cell)
  have hz1_0_0 : W1.frozen? ⟨w.heap.size, 0, none⟩ = false := (hf1 _ _ (by first | omega | go_size)).trans (by first | (with_reducible assumption) | (go_simp; done) | (simp [*]; done))
  have hl1_0_1 : W1.cell? ⟨w.heap.size, 1, none⟩ = some (.int .u32 l) := (hc1 _ _ (by first | omega | go_size)).trans (by first | (with_reducible assumption) | go_cell)
  have hz1_0_1 : W1.frozen? ⟨w.heap.size, 1, none⟩ = false := (hf1 _ _ (by first | omega | go_size)).trans (by first | (with_reducible assumption) | (go_simp; done) | (simp [*]; done))
  have hl1_0_2 : W1.cell? ⟨w.heap.size, 2, none⟩ = some (.int .u16 f) := (hc1 _ _ (by first | omega | go_size)).trans (by first | (with_reducible assumption) | go_cell)
  have hz1_0_2 : W1.frozen? ⟨w.heap.size, 2, none⟩ = false := (hf1 _ _ (by first | omega | go_size)).trans (by first | (with_reducible assumption) | (go_simp; done) | (simp [*]; done))
  have hl1_0_3 : W1.cell? ⟨w.heap.size, 3, none⟩ = some (.int .u16 x) := (hc1 _ _ (by first | omega | go_size)).trans (by first | (with_reducible assumption) | go_cell)
  have hz1_0_3 : W1.frozen? ⟨w.heap.size, 3, none⟩ = false := (hf1 _ _ (by first | omega | go_size)).trans (by first | (with_reducible assumption) | (go_simp; done) | (simp [*]; done))
  have hk1_0 : w.heap.size < W1.heap.size := by omega
  have hl1_1_0 : W1.cell? ⟨w.heap.size + 1, 0, none⟩ = some (.int .u64 pa) := (hc1 _ _ (by first | omega | go_size)).trans (by first | (with_reducible assumption) | go_cell)
  have hz1_1_0 : W1.frozen? ⟨w.heap.size + 1, 0, none⟩ = false := (hf1 _ _ (by first | omega | go_size)).trans (by first | (with_reducible assumption) | (go_simp; done) | (simp [*]; done))
  have hl1_1_1 : W1.cell? ⟨w.heap.size + 1, 1, none⟩ = some (.int .u32 pl) := (hc1 _ _ (by first | omega | go_size)).trans (by first | (with_reducible assumption) | go_cell)
  have hz1_1_1 : W1.frozen? ⟨w.heap.size + 1, 1, none⟩ = false := (hf1 _ _ (by first | omega | go_size)).trans (by first | (with_reducible assumption) | (go_simp; done) | (simp [*]; done))
  have hl1_1_2 : W1.cell? ⟨w.heap.size + 1, 2, none⟩ = some (.int .u16 pf) := (hc1 _ _ (by first | omega | go_size)).trans (by first | (with_reducible assumption) | go_cell)
  have hz1_1_2 : W1.frozen? ⟨w.heap.size + 1, 2, none⟩ = false := (hf1 _ _ (by first | omega | go_size)).trans (by first | (with_reducible assumption) | (go_simp; done) | (simp [*]; done))
  have hl1_1_3 : W1.cell? ⟨w.heap.size + 1, 3, none⟩ = some (.int .u16 px) := (hc1 _ _ (by first | omega | go_size)).trans (by first | (with_reducible assumption) | go_cell)
  have hz1_1_3 : W1.frozen? ⟨w.heap.size + 1, 3, none⟩ = false := (hf1 _ _ (by first | omega | go_size)).trans (by first | (with_reducible assumption) | (go_simp; done) | (simp [*]; done))
  have hk1_1 : w.heap.size + 1 < W1.heap.size := by omega
  clear hg1 hc1 hf1
  go_wp2_with fail
  refine (own_any B m cb g _ (by omega) (rowAt HB.out (by go_grown)) HN.out).mono ?_
  rintro e W2 ⟨A2, c2, rfl, hc2, h2r, hg2⟩
  have hb2 : Below w.heap.size w W2 := (show Below w.heap.size w _ by go_grown).trans (hg2.mono (by first | omega | go_size))
  obtain ⟨hc2, hf2⟩ := bcell hg2
  have hs2 := hg2.size
  try simp only [World.size_alloc, World.size_setCell, World.size_drew] at hs2
  have hl2_0_0 : W2.cell? ⟨w.heap.size, 0, none⟩ = some (.int .u64 a) := (hc2 _ _ (by first | omega | go_size)).trans (by first | (with_reducible assumption) | go_cell)
  have hz2_0_0 : W2.frozen? ⟨w.heap.size, 0, none⟩ = false := (hf2 _ _ (by first | omega | go_size)).trans (by first | (with_reducible assumption) | (go_simp; done) | (simp [*]; done))
  have hl2_0_1 : W2.cell? ⟨w.heap.size, 1, none⟩ = some (.int .u32 l) := (hc2 _ _ (by first | omega | go_size)).trans (by first | (with_reducible assumption) | go_cell)
  have hz2_0_1 : W2.frozen? ⟨w.heap.size, 1, none⟩ = false := (hf2 _ _ (by first | omega | go_size)).trans (by first | (with_reducible assumption) | (go_simp; done) | (simp [*]; done))
  have hl2_0_2 : W2.cell? ⟨w.heap.size, 2, none⟩ = some (.int .u16 f) := (hc2 _ _ (by first | omega | go_size)).trans (by first | (with_reducible assumption) | go_cell)
  have hz2_0_2 : W2.frozen? ⟨w.heap.size, 2, none⟩ = false := (hf2 _ _ (by first | omega | go_size)).trans (by first | (with_reducible assumption) | (go_simp; done) | (simp [*]; done))
  have hl2_0_3 : W2.cell? ⟨w.heap.size, 3, none⟩ = some (.int .u16 x) := (hc2 _ _ (by first | omega | go_size)).trans (by first | (with_reducible assumption) | go_cell)
  have hz2_0_3 : W2.frozen? ⟨w.heap.size, 3, none⟩ = false := (hf2 _ _ (by first | omega | go_size)).trans (by first | (with_reducible assumption) | (go_simp; done) | (simp [*]; done))
  have hk2_0 : w.heap.size < W2.heap.size := by omega
  have hl2_1_0 : W2.cell? ⟨w.heap.size + 1, 0, none⟩ = some (.int .u64 pa) := (hc2 _ _ (by first | omega | go_size)).trans (by first | (with_reducible assumption) | go_cell)
  have hz2_1_0 : W2.frozen? ⟨w.heap.size + 1, 0, none⟩ = false := (hf2 _ _ (by first | omega | go_size)).trans (by first | (with_reducible assumption) | (go_simp; done) | (simp [*]; done))
  have hl2_1_1 : W2.cell? ⟨w.heap.size + 1, 1, none⟩ = some (.int .u32 pl) := (hc2 _ _ (by first | omega | go_size)).trans (by first | (with_reducible assumption) | go_cell)
  have hz2_1_1 : W2.frozen? ⟨w.heap.size + 1, 1, none⟩ = false := (hf2 _ _ (by first | omega | go_size)).trans (by first | (with_reducible assumption) | (go_simp; done) | (simp [*]; done))
  have hl2_1_2 : W2.cell? ⟨w.heap.size + 1, 2, none⟩ = some (.int .u16 pf) := (hc2 _ _ (by first | omega | go_size)).trans (by first | (with_reducible assumption) | go_cell)
  have hz2_1_2 : W2.frozen? ⟨w.heap.size + 1, 2, none⟩ = false := (hf2 _ _ (by first | omega | go_size)).trans (by first | (with_reducible assumption) | (go_simp; done) | (simp [*]; done))
  have hl2_1_3 : W2.cell? ⟨w.heap.size + 1, 3, none⟩ = some (.int .u16 px) := (hc2 _ _ (by first | omega | go_size)).trans (by first | (with_reducible assumption) | go_cell)
  have hz2_1_3 : W2.frozen? ⟨w.heap.size + 1, 3, none⟩ = false := (hf2 _ _ (by first | omega | go_size)).trans (by first | (with_reducible assumption) | (go_simp; done) | (simp [*]; done))
  have hk2_1 : w.heap.size + 1 < W2.heap.size := by omega
  clear hg2 hc2 hf2
  go_wp2_with fail
  refine (read_rd A2 m c2 g ra rl rf rx re _ HRD.out hc2 HG.out h2r).mono ?_
  rintro eE W3 ⟨rfl, hg3⟩
  have hb3 : Below w.heap.size w W3 := (show Below w.heap.size w _ by go_grown).trans (hg3.mono (by first | omega | go_size))
  obtain ⟨hc3, hf3⟩ := bcell hg3
  have hs3 := hg3.size
  try simp only [World.size_alloc, World.size_setCell, World.size_drew] at hs3
  have hl3_0_0 : W3.cell? ⟨w.heap.size, 0, none⟩ = some (.int .u64 a) := (hc3 _ _ (by first | omega | go_size)).trans (by first | (with_reducible assumption) | go_cell)
  have hz3_0_0 : W3.frozen? ⟨w.heap.size, 0, none⟩ = false := (hf3 _ _ (by first | omega | go_size)).trans (by first | (with_reducible assumption) | (go_simp; done) | (simp [*]; done))
  have hl3_0_1 : W3.cell? ⟨w.heap.size, 1, none⟩ = some (.int .u32 l) := (hc3 _ _ (by first | omega | go_size)).trans (by first | (with_reducible assumption) | go_cell)
  have hz3_0_1 : W3.frozen? ⟨w.heap.size, 1, none⟩ = false := (hf3 _ _ (by first | omega | go_size)).trans (by first | (with_reducible assumption) | (go_simp; done) | (simp [*]; done))
  have hl3_0_2 : W3.cell? ⟨w.heap.size, 2, none⟩ = some (.int .u16 f) := (hc3 _ _ (by first | omega | go_size)).trans (by first | (with_reducible assumption) | go_cell)
  have hz3_0_2 : W3.frozen? ⟨w.heap.size, 2, none⟩ = false := (hf3 _ _ (by first | omega | go_size)).trans (by first | (with_reducible assumption) | (go_simp; done) | (simp [*]; done))
  have hl3_0_3 : W3.cell? ⟨w.heap.size, 3, none⟩ = some (.int .u16 x) := (hc3 _ _ (by first | omega | go_size)).trans (by first | (with_reducible assumption) | go_cell)
  have hz3_0_3 : W3.frozen? ⟨w.heap.size, 3, none⟩ = false := (hf3 _ _ (by first | omega | go_size)).trans (by first | (with_reducible assumption) | (go_simp; done) | (simp [*]; done))
  have hk3_0 : w.heap.size < W3.heap.size := by omega
  have hl3_1_0 : W3.cell? ⟨w.heap.size + 1, 0, none⟩ = some (.int .u64 pa) := (hc3 _ _ (by first | omega | go_size)).trans (by first | (with_reducible assumption) | go_cell)
  have hz3_1_0 : W3.frozen? ⟨w.heap.size + 1, 0, none⟩ = false := (hf3 _ _ (by first | omega | go_size)).trans (by first | (with_reducible assumption) | (go_simp; done) | (simp [*]; done))
  have hl3_1_1 : W3.cell? ⟨w.heap.size + 1, 1, none⟩ = some (.int .u32 pl) := (hc3 _ _ (by first | omega | go_size)).trans (by first | (with_reducible assumption) | go_cell)
  have hz3_1_1 : W3.frozen? ⟨w.heap.size + 1, 1, none⟩ = false := (hf3 _ _ (by first | omega | go_size)).trans (by first | (with_reducible assumption) | (go_simp; done) | (simp [*]; done))
  have hl3_1_2 : W3.cell? ⟨w.heap.size + 1, 2, none⟩ = some (.int .u16 pf) := (hc3 _ _ (by first | omega | go_size)).trans (by first | (with_reducible assumption) | go_cell)
  have hz3_1_2 : W3.frozen? ⟨w.heap.size + 1, 2, none⟩ = false := (hf3 _ _ (by first | omega | go_size)).trans (by first | (with_reducible assumption) | (go_simp; done) | (simp [*]; done))
  have hl3_1_3 : W3.cell? ⟨w.heap.size + 1, 3, none⟩ = some (.int .u16 px) := (hc3 _ _ (by first | omega | go_size)).trans (by first | (with_reducible assumption) | go_cell)
  have hz3_1_3 : W3.frozen? ⟨w.heap.size + 1, 3, none⟩ = false := (hf3 _ _ (by first | omega | go_size)).trans (by first | (with_reducible assumption) | (go_simp; done) | (simp [*]; done))
  have hk3_1 : w.heap.size + 1 < W3.heap.size := by omega
  clear hg3 hc3 hf3
  go_wp2_with fail
  clear h2r hc2
  refine (r_read_rd B m cb g ra rl rf rx re _ HRD.out HG.out (rowAt HB.out (by go_grown))).mono ?_
  rintro eE W4 ⟨rfl, hg4⟩
  have hb4 : Below w.heap.size w W4 := (show Below w.heap.size w _ by go_grown).trans (hg4.mono (by first | omega | go_size))
  obtain ⟨hc4, hf4⟩ := bcell hg4
  have hs4 := hg4.size
  try simp only [World.size_alloc, World.size_setCell, World.size_drew] at hs4
  have hl4_0_0 : W4.cell? ⟨w.heap.size, 0, none⟩ = some (.int .u64 a) := (hc4 _ _ (by first | omega | go_size)).trans (by first | (with_reducible assumption) | go_cell)
  have hz4_0_0 : W4.frozen? ⟨w.heap.size, 0, none⟩ = false := (hf4 _ _ (by first | omega | go_size)).trans (by first | (with_reducible assumption) | (go_simp; done) | (simp [*]; done))
  have hl4_0_1 : W4.cell? ⟨w.heap.size, 1, none⟩ = some (.int .u32 l) := (hc4 _ _ (by first | omega | go_size)).trans (by first | (with_reducible assumption) | go_cell)
  have hz4_0_1 : W4.frozen? ⟨w.heap.size, 1, none⟩ = false := (hf4 _ _ (by first | omega | go_size)).trans (by first | (with_reducible assumption) | (go_simp; done) | (simp [*]; done))
  have hl4_0_2 : W4.cell? ⟨w.heap.size, 2, none⟩ = some (.int .u16 f) := (hc4 _ _ (by first | omega | go_size)).trans (by first | (with_reducible assumption) | go_cell)
  have hz4_0_2 : W4.frozen? ⟨w.heap.size, 2, none⟩ = false := (hf4 _ _ (by first | omega | go_size)).trans (by first | (with_reducible assumption) | (go_simp; done) | (simp [*]; done))
  have hl4_0_3 : W4.cell? ⟨w.heap.size, 3, none⟩ = some (.int .u16 x) := (hc4 _ _ (by first | omega | go_size)).trans (by first | (with_reducible assumption) | go_cell)
  have hz4_0_3 : W4.frozen? ⟨w.heap.size, 3, none⟩ = false := (hf4 _ _ (by first | omega | go_size)).trans (by first | (with_reducible assumption) | (go_simp; done) | (simp [*]; done))
  have hk4_0 : w.heap.size < W4.heap.size := by omega
  have hl4_1_0 : W4.cell? ⟨w.heap.size + 1, 0, none⟩ = some (.int .u64 pa) := (hc4 _ _ (by first | omega | go_size)).trans (by first | (with_reducible assumption) | go_cell)
  have hz4_1_0 : W4.frozen? ⟨w.heap.size + 1, 0, none⟩ = false := (hf4 _ _ (by first | omega | go_size)).trans (by first | (with_reducible assumption) | (go_simp; done) | (simp [*]; done))
  have hl4_1_1 : W4.cell? ⟨w.heap.size + 1, 1, none⟩ = some (.int .u32 pl) := (hc4 _ _ (by first | omega | go_size)).trans (by first | (with_reducible assumption) | go_cell)
  have hz4_1_1 : W4.frozen? ⟨w.heap.size + 1, 1, none⟩ = false := (hf4 _ _ (by first | omega | go_size)).trans (by first | (with_reducible assumption) | (go_simp; done) | (simp [*]; done))
  have hl4_1_2 : W4.cell? ⟨w.heap.size + 1, 2, none⟩ = some (.int .u16 pf) := (hc4 _ _ (by first | omega | go_size)).trans (by first | (with_reducible assumption) | go_cell)
  have hz4_1_2 : W4.frozen? ⟨w.heap.size + 1, 2, none⟩ = false := (hf4 _ _ (by first | omega | go_size)).trans (by first | (with_reducible assumption) | (go_simp; done) | (simp [*]; done))
  have hl4_1_3 : W4.cell? ⟨w.heap.size + 1, 3, none⟩ = some (.int .u16 px) := (hc4 _ _ (by first | omega | go_size)).trans (by first | (with_reducible assumption) | go_cell)
  have hz4_1_3 : W4.frozen? ⟨w.heap.size + 1, 3, none⟩ = false := (hf4 _ _ (by first | omega | go_size)).trans (by first | (with_reducible assumption) | (go_simp; done) | (simp [*]; done))
  have hk4_1 : w.heap.size + 1 < W4.heap.size := by omega
  have hl4_2_0 : W4.cell? ⟨W3.heap.size, 0, none⟩ = some (.int .u64 ra) := (hc4 _ _ (by first | omega | go_size)).trans (by first | (with_reducible assumption) | go_cell)
  have hz4_2_0 : W4.frozen? ⟨W3.heap.size, 0, none⟩ = false := (hf4 _ _ (by first | omega | go_size)).trans (by first | (with_reducible assumption) | (go_simp; done) | (simp [*]; done))
  have hl4_2_1 : W4.cell? ⟨W3.heap.size, 1, none⟩ = some (.int .u32 rl) := (hc4 _ _ (by first | omega | go_size)).trans (by first | (with_reducible assumption) | go_cell)
  have hz4_2_1 : W4.frozen? ⟨W3.heap.size, 1, none⟩ = false := (hf4 _ _ (by first | omega | go_size)).trans (by first | (with_reducible assumption) | (go_simp; done) | (simp [*]; done))
  have hl4_2_2 : W4.cell? ⟨W3.heap.size, 2, none⟩ = some (.int .u16 rf) := (hc4 _ _ (by first | omega | go_size)).trans (by first | (with_reducible assumption) | go_cell)
  have hz4_2_2 : W4.frozen? ⟨W3.heap.size, 2, none⟩ = false := (hf4 _ _ (by first | omega | go_size)).trans (by first | (with_reducible assumption) | (go_simp; done) | (simp [*]; done))
  have hl4_2_3 : W4.cell? ⟨W3.heap.size, 3, none⟩ = some (.int .u16 rx) := (hc4 _ _ (by first | omega | go_size)).trans (by first | (with_reducible assumption) | go_cell)
  have hz4_2_3 : W4.frozen? ⟨W3.heap.size, 3, none⟩ = false := (hf4 _ _ (by first | omega | go_size)).trans (by first | (with_reducible assumption) | (go_simp; done) | (simp [*]; done))
  have hk4_2 : W3.heap.size < W4.heap.size := by omega
  clear hg4 hc4 hf4
  go_wp2_with fail
  refine (own_any B m cb g _ (by omega) (rowAt HB.out (by go_grown)) HN.out).mono ?_
  rintro e W5 ⟨A5, c5, rfl, hc5, h5r, hg5⟩
  have hb5 : Below w.heap.size w W5 := (show Below w.heap.size w _ by go_grown).trans (hg5.mono (by first | omega | go_size))
  obtain ⟨hc5, hf5⟩ := bcell hg5
  have hs5 := hg5.size
  try simp only [World.size_alloc, World.size_setCell, World.size_drew] at hs5
  have hl5_0_0 : W5.cell? ⟨w.heap.size, 0, none⟩ = some (.int .u64 a) := (hc5 _ _ (by first | omega | go_size)).trans (by first | (with_reducible assumption) | go_cell)
  have hz5_0_0 : W5.frozen? ⟨w.heap.size, 0, none⟩ = false := (hf5 _ _ (by first | omega | go_size)).trans (by first | (with_reducible assumption) | (go_simp; done) | (simp [*]; done))
  have hl5_0_1 : W5.cell? ⟨w.heap.size, 1, none⟩ = some (.int .u32 l) := (hc5 _ _ (by first | omega | go_size)).trans (by first | (with_reducible assumption) | go_cell)
  have hz5_0_1 : W5.frozen? ⟨w.heap.size, 1, none⟩ = false := (hf5 _ _ (by first | omega | go_size)).trans (by first | (with_reducible assumption) | (go_simp; done) | (simp [*]; done))
  have hl5_0_2 : W5.cell? ⟨w.heap.size, 2, none⟩ = some (.int .u16 f) := (hc5 _ _ (by first | omega | go_size)).trans (by first | (with_reducible assumption) | go_cell)
  have hz5_0_2 : W5.frozen? ⟨w.heap.size, 2, none⟩ = false := (hf5 _ _ (by first | omega | go_size)).trans (by first | (with_reducible assumption) | (go_simp; done) | (simp [*]; done))
  have hl5_0_3 : W5.cell? ⟨w.heap.size, 3, none⟩ = some (.int .u16 x) := (hc5 _ _ (by first | omega | go_size)).trans (by first | (with_reducible assumption) | go_cell)
  have hz5_0_3 : W5.frozen? ⟨w.heap.size, 3, none⟩ = false := (hf5 _ _ (by first | omega | go_size)).trans (by first | (with_reducible assumption) | (go_simp; done) | (simp [*]; done))
  have hk5_0 : w.heap.size < W5.heap.size := by omega
  have hl5_1_0 : W5.cell? ⟨w.heap.size + 1, 0, none⟩ = some (.int .u64 pa) := (hc5 _ _ (by first | omega | go_size)).trans (by first | (with_reducible assumption) | go_cell)
  have hz5_1_0 : W5.frozen? ⟨w.heap.size + 1, 0, none⟩ = false := (hf5 _ _ (by first | omega | go_size)).trans (by first | (with_reducible assumption) | (go_simp; done) | (simp [*]; done))
  have hl5_1_1 : W5.cell? ⟨w.heap.size + 1, 1, none⟩ = some (.int .u32 pl) := (hc5 _ _ (by first | omega | go_size)).trans (by first | (with_reducible assumption) | go_cell)
  have hz5_1_1 : W5.frozen? ⟨w.heap.size + 1, 1, none⟩ = false := (hf5 _ _ (by first | omega | go_size)).trans (by first | (with_reducible assumption) | (go_simp; done) | (simp [*]; done))
  have hl5_1_2 : W5.cell? ⟨w.heap.size + 1, 2, none⟩ = some (.int .u16 pf) := (hc5 _ _ (by first | omega | go_size)).trans (by first | (with_reducible assumption) | go_cell)
  have hz5_1_2 : W5.frozen? ⟨w.heap.size + 1, 2, none⟩ = false := (hf5 _ _ (by first | omega | go_size)).trans (by first | (with_reducible assumption) | (go_simp; done) | (simp [*]; done))
  have hl5_1_3 : W5.cell? ⟨w.heap.size + 1, 3, none⟩ = some (.int .u16 px) := (hc5 _ _ (by first | omega | go_size)).trans (by first | (with_reducible assumption) | go_cell)
  have hz5_1_3 : W5.frozen? ⟨w.heap.size + 1, 3, none⟩ = false := (hf5 _ _ (by first | omega | go_size)).trans (by first | (with_reducible assumption) | (go_simp; done) | (simp [*]; done))
  have hk5_1 : w.heap.size + 1 < W5.heap.size := by omega
  have hl5_2_0 : W5.cell? ⟨W3.heap.size, 0, none⟩ = some (.int .u64 ra) := (hc5 _ _ (by first | omega | go_size)).trans (by first | (with_reducible assumption) | go_cell)
  have hz5_2_0 : W5.frozen? ⟨W3.heap.size, 0, none⟩ = false := (hf5 _ _ (by first | omega | go_size)).trans (by first | (with_reducible assumption) | (go_simp; done) | (simp [*]; done))
  have hl5_2_1 : W5.cell? ⟨W3.heap.size, 1, none⟩ = some (.int .u32 rl) := (hc5 _ _ (by first | omega | go_size)).trans (by first | (with_reducible assumption) | go_cell)
  have hz5_2_1 : W5.frozen? ⟨W3.heap.size, 1, none⟩ = false := (hf5 _ _ (by first | omega | go_size)).trans (by first | (with_reducible assumption) | (go_simp; done) | (simp [*]; done))
  have hl5_2_2 : W5.cell? ⟨W3.heap.size, 2, none⟩ = some (.int .u16 rf) := (hc5 _ _ (by first | omega | go_size)).trans (by first | (with_reducible assumption) | go_cell)
  have hz5_2_2 : W5.frozen? ⟨W3.heap.size, 2, none⟩ = false := (hf5 _ _ (by first | omega | go_size)).trans (by first | (with_reducible assumption) | (go_simp; done) | (simp [*]; done))
  have hl5_2_3 : W5.cell? ⟨W3.heap.size, 3, none⟩ = some (.int .u16 rx) := (hc5 _ _ (by first | omega | go_size)).trans (by first | (with_reducible assumption) | go_cell)
  have hz5_2_3 : W5.frozen? ⟨W3.heap.size, 3, none⟩ = false := (hf5 _ _ (by first | omega | go_size)).trans (by first | (with_reducible assumption) | (go_simp; done) | (simp [*]; done))
  have hk5_2 : W3.heap.size < W5.heap.size := by omega
  have hl5_3_0 : W5.cell? ⟨W4.heap.size, 0, none⟩ = some (.int .u64 ra) := (hc5 _ _ (by first | omega | go_size)).trans (by first | (with_reducible assumption) | go_cell)
  have hz5_3_0 : W5.frozen? ⟨W4.heap.size, 0, none⟩ = false := (hf5 _ _ (by first | omega | go_size)).trans (by first | (with_reducible assumption) | (go_simp; done) | (simp [*]; done))
  have hl5_3_1 : W5.cell? ⟨W4.heap.size, 1, none⟩ = some (.int .u32 rl) := (hc5 _ _ (by first | omega | go_size)).trans (by first | (with_reducible assumption) | go_cell)
  have hz5_3_1 : W5.frozen? ⟨W4.heap.size, 1, none⟩ = false := (hf5 _ _ (by first | omega | go_size)).trans (by first | (with_reducible assumption) | (go_simp; done) | (simp [*]; done))
  have hl5_3_2 : W5.cell? ⟨W4.heap.size, 2, none⟩ = some (.int .u16 rf) := (hc5 _ _ (by first | omega | go_size)).trans (by first | (with_reducible assumption) | go_cell)
  have hz5_3_2 : W5.frozen? ⟨W4.heap.size, 2, none⟩ = false := (hf5 _ _ (by first | omega | go_size)).trans (by first | (with_reducible assumption) | (go_simp; done) | (simp [*]; done))
  have hl5_3_3 : W5.cell? ⟨W4.heap.size, 3, none⟩ = some (.int .u16 rx) := (hc5 _ _ (by first | omega | go_size)).trans (by first | (with_reducible assumption) | go_cell)
  have hz5_3_3 : W5.frozen? ⟨W4.heap.size, 3, none⟩ = false := (hf5 _ _ (by first | omega | go_size)).trans (by first | (with_reducible assumption) | (go_simp; done) | (simp [*]; done))
  have hk5_3 : W4.heap.size < W5.heap.size := by omega
  clear hg5 hc5 hf5
  go_wp2_with fail
  refine (pread_rd A5 m c5 g ra rl rf rx re _ HRD.out hc5 HG.out h5r).mono ?_
  rintro eE W6 ⟨rfl, hg6⟩
  have hb6 : Below w.heap.size w W6 := (show Below w.heap.size w _ by go_grown).trans (hg6.mono (by first | omega | go_size))
  obtain ⟨hc6, hf6⟩ := bcell hg6
  have hs6 := hg6.size
  try simp only [World.size_alloc, World.size_setCell, World.size_drew] at hs6
  have hl6_0_0 : W6.cell? ⟨w.heap.size, 0, none⟩ = some (.int .u64 a) := (hc6 _ _ (by first | omega | go_size)).trans (by first | (with_reducible assumption) | go_cell)
  have hz6_0_0 : W6.frozen? ⟨w.heap.size, 0, none⟩ = false := (hf6 _ _ (by first | omega | go_size)).trans (by first | (with_reducible assumption) | (go_simp; done) | (simp [*]; done))
  have hl6_0_1 : W6.cell? ⟨w.heap.size, 1, none⟩ = some (.int .u32 l) := (hc6 _ _ (by first | omega | go_size)).trans (by first | (with_reducible assumption) | go_cell)
  have hz6_0_1 : W6.frozen? ⟨w.heap.size, 1, none⟩ = false := (hf6 _ _ (by first | omega | go_size)).trans (by first | (with_reducible assumption) | (go_simp; done) | (simp [*]; done))
  have hl6_0_2 : W6.cell? ⟨w.heap.size, 2, none⟩ = some (.int .u16 f) := (hc6 _ _ (by first | omega | go_size)).trans (by first | (with_reducible assumption) | go_cell)
  have hz6_0_2 : W6.frozen? ⟨w.heap.size, 2, none⟩ = false := (hf6 _ _ (by first | omega | go_size)).trans (by first | (with_reducible assumption) | (go_simp; done) | (simp [*]; done))
  have hl6_0_3 : W6.cell? ⟨w.heap.size, 3, none⟩ = some (.int .u16 x) := (hc6 _ _ (by first | omega | go_size)).trans (by first | (with_reducible assumption) | go_cell)
  have hz6_0_3 : W6.frozen? ⟨w.heap.size, 3, none⟩ = false := (hf6 _ _ (by first | omega | go_size)).trans (by first | (with_reducible assumption) | (go_simp; done) | (simp [*]; done))
  have hk6_0 : w.heap.size < W6.heap.size := by omega
  have hl6_1_0 : W6.cell? ⟨w.heap.size + 1, 0, none⟩ = some (.int .u64 pa) := (hc6 _ _ (by first | omega | go_size)).trans (by first | (with_reducible assumption) | go_cell)
  have hz6_1_0 : W6.frozen? ⟨w.heap.size + 1, 0, none⟩ = false := (hf6 _ _ (by first | omega | go_size)).trans (by first | (with_reducible assumption) | (go_simp; done) | (simp [*]; done))
  have hl6_1_1 : W6.cell? ⟨w.heap.size + 1, 1, none⟩ = some (.int .u32 pl) := (hc6 _ _ (by first | omega | go_size)).trans (by first | (with_reducible assumption) | go_cell)
  have hz6_1_1 : W6.frozen? ⟨w.heap.size + 1, 1, none⟩ = false := (hf6 _ _ (by first | omega | go_size)).trans (by first | (with_reducible assumption) | (go_simp; done) | (simp [*]; done))
  have hl6_1_2 : W6.cell? ⟨w.heap.size + 1, 2, none⟩ = some (.int .u16 pf) := (hc6 _ _ (by first | omega | go_size)).trans (by first | (with_reducible assumption) | go_cell)
  have hz6_1_2 : W6.frozen? ⟨w.heap.size + 1, 2, none⟩ = false := (hf6 _ _ (by first | omega | go_size)).trans (by first | (with_reducible assumption) | (go_simp; done) | (simp [*]; done))
  have hl6_1_3 : W6.cell? ⟨w.heap.size + 1, 3, none⟩ = some (.int .u16 px) := (hc6 _ _ (by first | omega | go_size)).trans (by first | (with_reducible assumption) | go_cell)
  have hz6_1_3 : W6.frozen? ⟨w.heap.size + 1, 3, none⟩ = false := (hf6 _ _ (by first | omega | go_size)).trans (by first | (with_reducible assumption) | (go_simp; done) | (simp [*]; done))
  have hk6_1 : w.heap.size + 1 < W6.heap.size := by omega
  have hl6_2_0 : W6.cell? ⟨W3.heap.size, 0, none⟩ = some (.int .u64 ra) := (hc6 _ _ (by first | omega | go_size)).trans (by first | (with_reducible assumption) | go_cell)
  have hz6_2_0 : W6.frozen? ⟨W3.heap.size, 0, none⟩ = false := (hf6 _ _ (by first | omega | go_size)).trans (by first | (with_reducible assumption) | (go_simp; done) | (simp [*]; done))
  have hl6_2_1 : W6.cell? ⟨W3.heap.size, 1, none⟩ = some (.int .u32 rl) := (hc6 _ _ (by first | omega | go_size)).trans (by first | (with_reducible assumption) | go_cell)
  have hz6_2_1 : W6.frozen? ⟨W3.heap.size, 1, none⟩ = false := (hf6 _ _ (by first | omega | go_size)).trans (by first | (with_reducible assumption) | (go_simp; done) | (simp [*]; done))
  have hl6_2_2 : W6.cell? ⟨W3.heap.size, 2, none⟩ = some (.int .u16 rf) := (hc6 _ _ (by first | omega | go_size)).trans (by first | (with_reducible assumption) | go_cell)
  have hz6_2_2 : W6.frozen? ⟨W3.heap.size, 2, none⟩ = false := (hf6 _ _ (by first | omega | go_size)).trans (by first | (with_reducible assumption) | (go_simp; done) | (simp [*]; done))
  have hl6_2_3 : W6.cell? ⟨W3.heap.size, 3, none⟩ = some (.int .u16 rx) := (hc6 _ _ (by first | omega | go_size)).trans (by first | (with_reducible assumption) | go_cell)
  have hz6_2_3 : W6.frozen? ⟨W3.heap.size, 3, none⟩ = false := (hf6 _ _ (by first | omega | go_size)).trans (by first | (with_reducible assumption) | (go_simp; done) | (simp [*]; done))
  have hk6_2 : W3.heap.size < W6.heap.size := by omega
  have hl6_3_0 : W6.cell? ⟨W4.heap.size, 0, none⟩ = some (.int .u64 ra) := (hc6 _ _ (by first | omega | go_size)).trans (by first | (with_reducible assumption) | go_cell)
  have hz6_3_0 : W6.frozen? ⟨W4.heap.size, 0, none⟩ = false := (hf6 _ _ (by first | omega | go_size)).trans (by first | (with_reducible assumption) | (go_simp; done) | (simp [*]; done))
  have hl6_3_1 : W6.cell? ⟨W4.heap.size, 1, none⟩ = some (.int .u32 rl) := (hc6 _ _ (by first | omega | go_size)).trans (by first | (with_reducible assumption) | go_cell)
  have hz6_3_1 : W6.frozen? ⟨W4.heap.size, 1, none⟩ = false := (hf6 _ _ (by first | omega | go_size)).trans (by first | (with_reducible assumption) | (go_simp; done) | (simp [*]; done))
  have hl6_3_2 : W6.cell? ⟨W4.heap.size, 2, none⟩ = some (.int .u16 rf) := (hc6 _ _ (by first | omega | go_size)).trans (by first | (with_reducible assumption) | go_cell)
  have hz6_3_2 : W6.frozen? ⟨W4.heap.size, 2, none⟩ = false := (hf6 _ _ (by first | omega | go_size)).trans (by first | (with_reducible assumption) | (go_simp; done) | (simp [*]; done))
  have hl6_3_3 : W6.cell? ⟨W4.heap.size, 3, none⟩ = some (.int .u16 rx) := (hc6 _ _ (by first | omega | go_size)).trans (by first | (with_reducible assumption) | go_cell)
  have hz6_3_3 : W6.frozen? ⟨W4.heap.size, 3, none⟩ = false := (hf6 _ _ (by first | omega | go_size)).trans (by first | (with_reducible assumption) | (go_simp; done) | (simp [*]; done))
  have hk6_3 : W4.heap.size < W6.heap.size := by omega
  clear hg6 hc6 hf6
  go_wp2_with fail
  clear h5r hc5
  refine (r_pread_rd B m cb g ra rl rf rx re _ HRD.out HG.out (rowAt HB.out (by go_grown))).mono ?_
  rintro eE W7 ⟨rfl, hg7⟩
  have hb7 : Below w.heap.size w W7 := (show Below w.heap.size w _ by go_grown).trans (hg7.mono (by first | omega | go_size))
  obtain ⟨hc7, hf7⟩ := bcell hg7
  have hs7 := hg7.size
  try simp only [World.size_alloc, World.size_setCell, World.size_drew] at hs7
  have hl7_0_0 : W7.cell? ⟨w.heap.size, 0, none⟩ = some (.int .u64 a) := (hc7 _ _ (by first | omega | go_size)).trans (by first | (with_reducible assumption) | go_cell)
  have hz7_0_0 : W7.frozen? ⟨w.heap.size, 0, none⟩ = false := (hf7 _ _ (by first | omega | go_size)).trans (by first | (with_reducible assumption) | (go_simp; done) | (simp [*]; done))
  have hl7_0_1 : W7.cell? ⟨w.heap.size, 1, none⟩ = some (.int .u32 l) := (hc7 _ _ (by first | omega | go_size)).trans (by first | (with_reducible assumption) | go_cell)
  have hz7_0_1 : W7.frozen? ⟨w.heap.size, 1, none⟩ = false := (hf7 _ _ (by first | omega | go_size)).trans (by first | (with_reducible assumption) | (go_simp; done) | (simp [*]; done))
  have hl7_0_2 : W7.cell? ⟨w.heap.size, 2, none⟩ = some (.int .u16 f) := (hc7 _ _ (by first | omega | go_size)).trans (by first | (with_reducible assumption) | go_cell)
  have hz7_0_2 : W7.frozen? ⟨w.heap.size, 2, none⟩ = false := (hf7 _ _ (by first | omega | go_size)).trans (by first | (with_reducible assumption) | (go_simp; done) | (simp [*]; done))
  have hl7_0_3 : W7.cell? ⟨w.heap.size, 3, none⟩ = some (.int .u16 x) := (hc7 _ _ (by first | omega | go_size)).trans (by first | (with_reducible assumption) | go_cell)
  have hz7_0_3 : W7.frozen? ⟨w.heap.size, 3, none⟩ = false := (hf7 _ _ (by first | omega | go_size)).trans (by first | (with_reducible assumption) | (go_simp; done) | (simp [*]; done))
  have hk7_0 : w.heap.size < W7.heap.size := by omega
  have hl7_1_0 : W7.cell? ⟨w.heap.size + 1, 0, none⟩ = some (.int .u64 pa) := (hc7 _ _ (by first | omega | go_size)).trans (by first | (with_reducible assumption) | go_cell)
  have hz7_1_0 : W7.frozen? ⟨w.heap.size + 1, 0, none⟩ = false := (hf7 _ _ (by first | omega | go_size)).trans (by first | (with_reducible assumption) | (go_simp; done) | (simp [*]; done))
  have hl7_1_1 : W7.cell? ⟨w.heap.size + 1, 1, none⟩ = some (.int .u32 pl) := (hc7 _ _ (by first | omega | go_size)).trans (by first | (with_reducible assumption) | go_cell)
  have hz7_1_1 : W7.frozen? ⟨w.heap.size + 1, 1, none⟩ = false := (hf7 _ _ (by first | omega | go_size)).trans (by first | (with_reducible assumption) | (go_simp; done) | (simp [*]; done))
  have hl7_1_2 : W7.cell? ⟨w.heap.size + 1, 2, none⟩ = some (.int .u16 pf) := (hc7 _ _ (by first | omega | go_size)).trans (by first | (with_reducible assumption) | go_cell)
  have hz7_1_2 : W7.frozen? ⟨w.heap.size + 1, 2, none⟩ = false := (hf7 _ _ (by first | omega | go_size)).trans (by first | (with_reducible assumption) | (go_simp; done) | (simp [*]; done))
  have hl7_1_3 : W7.cell? ⟨w.heap.size + 1, 3, none⟩ = some (.int .u16 px) := (hc7 _ _ (by first | omega | go_size)).trans (by first | (with_reducible assumption) | go_cell)
  have hz7_1_3 : W7.frozen? ⟨w.heap.size + 1, 3, none⟩ = false := (hf7 _ _ (by first | omega | go_size)).trans (by first | (with_reducible assumption) | (go_simp; done) | (simp [*]; done))
  have hk7_1 : w.heap.size + 1 < W7.heap.size := by omega
  have hl7_2_0 : W7.cell? ⟨W3.heap.size, 0, none⟩ = some (.int .u64 ra) := (hc7 _ _ (by first | omega | go_size)).trans (by first | (with_reducible assumption) | go_cell)
  have hz7_2_0 : W7.frozen? ⟨W3.heap.size, 0, none⟩ = false := (hf7 _ _ (by first | omega | go_size)).trans (by first | (with_reducible assumption) | (go_simp; done) | (simp [*]; done))
  have hl7_2_1 : W7.cell? ⟨W3.heap.size, 1, none⟩ = some (.int .u32 rl) := (hc7 _ _ (by first | omega | go_size)).trans (by first | (with_reducible assumption) | go_cell)
  have hz7_2_1 : W7.frozen? ⟨W3.heap.size, 1, none⟩ = false := (hf7 _ _ (by first | omega | go_size)).trans (by first | (with_reducible assumption) | (go_simp; done) | (simp [*]; done))
  have hl7_2_2 : W7.cell? ⟨W3.heap.size, 2, none⟩ = some (.int .u16 rf) := (hc7 _ _ (by first | omega | go_size)).trans (by first | (with_reducible assumption) | go_cell)
  have hz7_2_2 : W7.frozen? ⟨W3.heap.size, 2, none⟩ = false := (hf7 _ _ (by first | omega | go_size)).trans (by first | (with_reducible assumption) | (go_simp; done) | (simp [*]; done))
  have hl7_2_3 : W7.cell? ⟨W3.heap.size, 3, none⟩ = some (.int .u16 rx) := (hc7 _ _ (by first | omega | go_size)).trans (by first | (with_reducible assumption) | go_cell)
  have hz7_2_3 : W7.frozen? ⟨W3.heap.size, 3, none⟩ = false := (hf7 _ _ (by first | omega | go_size)).trans (by first | (with_reducible assumption) | (go_simp; done) | (simp [*]; done))
  have hk7_2 : W3.heap.size < W7.heap.size := by omega
  have hl7_3_0 : W7.cell? ⟨W4.heap.size, 0, none⟩ = some (.int .u64 ra) := (hc7 _ _ (by first | omega | go_size)).trans (by first | (with_reducible assumption) | go_cell)
  have hz7_3_0 : W7.frozen? ⟨W4.heap.size, 0, none⟩ = false := (hf7 _ _ (by first | omega | go_size)).trans (by first | (with_reducible assumption) | (go_simp; done) | (simp [*]; done))
  have hl7_3_1 : W7.cell? ⟨W4.heap.size, 1, none⟩ = some (.int .u32 rl) := (hc7 _ _ (by first | omega | go_size)).trans (by first | (with_reducible assumption) | go_cell)
  have hz7_3_1 : W7.frozen? ⟨W4.heap.size, 1, none⟩ = false := (hf7 _ _ (by first | omega | go_size)).trans (by first | (with_reducible assumption) | (go_simp; done) | (simp [*]; done))
  have hl7_3_2 : W7.cell? ⟨W4.heap.size, 2, none⟩ = some (.int .u16 rf) := (hc7 _ _ (by first | omega | go_size)).trans (by first | (with_reducible assumption) | go_cell)
  have hz7_3_2 : W7.frozen? ⟨W4.heap.size, 2, none⟩ = false := (hf7 _ _ (by first | omega | go_size)).trans (by first | (with_reducible assumption) | (go_simp; done) | (simp [*]; done))
  have hl7_3_3 : W7.cell? ⟨W4.heap.size, 3, none⟩ = some (.int .u16 rx) := (hc7 _ _ (by first | omega | go_size)).trans (by first | (with_reducible assumption) | go_cell)
  have hz7_3_3 : W7.frozen? ⟨W4.heap.size, 3, none⟩ = false := (hf7 _ _ (by first | omega | go_size)).trans (by first | (with_reducible assumption) | (go_simp; done) | (simp [*]; done))
  have hk7_3 : W4.heap.size < W7.heap.size := by omega
  have hl7_4_0 : W7.cell? ⟨W6.heap.size, 0, none⟩ = some (.int .u64 ra) := (hc7 _ _ (by first | omega | go_size)).trans (by first | (with_reducible assumption) | go_cell)
  have hz7_4_0 : W7.frozen? ⟨W6.heap.size, 0, none⟩ = false := (hf7 _ _ (by first | omega | go_size)).trans (by first | (with_reducible assumption) | (go_simp; done) | (simp [*]; done))
  have hl7_4_1 : W7.cell? ⟨W6.heap.size, 1, none⟩ = some (.int .u32 rl) := (hc7 _ _ (by first | omega | go_size)).trans (by first | (with_reducible assumption) | go_cell)
  have hz7_4_1 : W7.frozen? ⟨W6.heap.size, 1, none⟩ = false := (hf7 _ _ (by first | omega | go_size)).trans (by first | (with_reducible assumption) | (go_simp; done) | (simp [*]; done))
  have hl7_4_2 : W7.cell? ⟨W6.heap.size, 2, none⟩ = some (.int .u16 rf) := (hc7 _ _ (by first | omega | go_size)).trans (by first | (with_reducible assumption) | go_cell)
  have hz7_4_2 : W7.frozen? ⟨W6.heap.size, 2, none⟩ = false := (hf7 _ _ (by first | omega | go_size)).trans (by first | (with_reducible assumption) | (go_simp; done) | (simp [*]; done))
  have hl7_4_3 : W7.cell? ⟨W6.heap.size, 3, none⟩ = some (.int .u16 rx) := (hc7 _ _ (by first | omega | go_size)).trans (by first | (with_reducible assumption) | go_cell)
  have hz7_4_3 : W7.frozen? ⟨W6.heap.size, 3, none⟩ = false := (hf7 _ _ (by first | omega | go_size)).trans (by first | (with_reducible assumption) | (go_simp; done) | (simp [*]; done))
  have hk7_4 : W6.heap.size < W7.heap.size := by omega
  clear hg7 hc7 hf7
  go_wp2_with fail
  refine (own_any B m cb g _ (by omega) (rowAt HB.out (by go_grown)) HN.out).mono ?_
  rintro e W8 ⟨A8, c8, rfl, hc8, h8r, hg8⟩
  have hb8 : Below w.heap.size w W8 := (show Below w.heap.size w _ by go_grown).trans (hg8.mono (by first | omega | go_size))
  obtain ⟨hc8, hf8⟩ := bcell hg8
  have hs8 := hg8.size
  try simp only [World.size_alloc, World.size_setCell, World.size_drew] at hs8
  have hl8_0_0 : W8.cell? ⟨w.heap.size, 0, none⟩ = some (.int .u64 a) := (hc8 _ _ (by first | omega | go_size)).trans (by first | (with_reducible assumption) | go_cell)
  have hz8_0_0 : W8.frozen? ⟨w.heap.size, 0, none⟩ = false := (hf8 _ _ (by first | omega | go_size)).trans (by first | (with_reducible assumption) | (go_simp; done) | (simp [*]; done))
  have hl8_0_1 : W8.cell? ⟨w.heap.size, 1, none⟩ = some (.int .u32 l) := (hc8 _ _ (by first | omega | go_size)).trans (by first | (with_reducible assumption) | go_cell)
  have hz8_0_1 : W8.frozen? ⟨w.heap.size, 1, none⟩ = false := (hf8 _ _ (by first | omega | go_size)).trans (by first | (with_reducible assumption) | (go_simp; done) | (simp [*]; done))
  have hl8_0_2 : W8.cell? ⟨w.heap.size, 2, none⟩ = some (.int .u16 f) := (hc8 _ _ (by first | omega | go_size)).trans (by first | (with_reducible assumption) | go_cell)
  have hz8_0_2 : W8.frozen? ⟨w.heap.size, 2, none⟩ = false := (hf8 _ _ (by first | omega | go_size)).trans (by first | (with_reducible assumption) | (go_simp; done) | (simp [*]; done))
  have hl8_0_3 : W8.cell? ⟨w.heap.size, 3, none⟩ = some (.int .u16 x) := (hc8 _ _ (by first | omega | go_size)).trans (by first | (with_reducible assumption) | go_cell)
  have hz8_0_3 : W8.frozen? ⟨w.heap.size, 3, none⟩ = false := (hf8 _ _ (by first | omega | go_size)).trans (by first | (with_reducible assumption) | (go_simp; done) | (simp [*]; done))
  have hk8_0 : w.heap.size < W8.heap.size := by omega
  have hl8_1_0 : W8.cell? ⟨w.heap.size + 1, 0, none⟩ = some (.int .u64 pa) := (hc8 _ _ (by first | omega | go_size)).trans (by first | (with_reducible assumption) | go_cell)
  have hz8_1_0 : W8.frozen? ⟨w.heap.size + 1, 0, none⟩ = false := (hf8 _ _ (by first | omega | go_size)).trans (by first | (with_reducible assumption) | (go_simp; done) | (simp [*]; done))
  have hl8_1_1 : W8.cell? ⟨w.heap.size + 1, 1, none⟩ = some (.int .u32 pl) := (hc8 _ _ (by first | omega | go_size)).trans (by first | (with_reducible assumption) | go_cell)
  have hz8_1_1 : W8.frozen? ⟨w.heap.size + 1, 1, none⟩ = false := (hf8 _ _ (by first | omega | go_size)).trans (by first | (with_reducible assumption) | (go_simp; done) | (simp [*]; done))
  have hl8_1_2 : W8.cell? ⟨w.heap.size + 1, 2, none⟩ = some (.int .u16 pf) := (hc8 _ _ (by first | omega | go_size)).trans (by first | (with_reducible assumption) | go_cell)
  have hz8_1_2 : W8.frozen? ⟨w.heap.size + 1, 2, none⟩ = false := (hf8 _ _ (by first | omega | go_size)).trans (by first | (with_reducible assumption) | (go_simp; done) | (simp [*]; done))
  have hl8_1_3 : W8.cell? ⟨w.heap.size + 1, 3, none⟩ = some (.int .u16 px) := (hc8 _ _ (by first | omega | go_size)).trans (by first | (with_reducible assumption) | go_cell)
  have hz8_1_3 : W8.frozen? ⟨w.heap.size + 1, 3, none⟩ = false := (hf8 _ _ (by first | omega | go_size)).trans (by first | (with_reducible assumption) | (go_simp; done) | (simp [*]; done))
  have hk8_1 : w.heap.size + 1 < W8.heap.size := by omega
  have hl8_2_0 : W8.cell? ⟨W3.heap.size, 0, none⟩ = some (.int .u64 ra) := (hc8 _ _ (by first | omega | go_size)).trans (by first | (with_reducible assumption) | go_cell)
  have hz8_2_0 : W8.frozen? ⟨W3.heap.size, 0, none⟩ = false := (hf8 _ _ (by first | omega | go_size)).trans (by first | (with_reducible assumption) | (go_simp; done) | (simp [*]; done))
  have hl8_2_1 : W8.cell? ⟨W3.heap.size, 1, none⟩ = some (.int .u32 rl) := (hc8 _ _ (by first | omega | go_size)).trans (by first | (with_reducible assumption) | go_cell)
  have hz8_2_1 : W8.frozen? ⟨W3.heap.size, 1, none⟩ = false := (hf8 _ _ (by first | omega | go_size)).trans (by first | (with_reducible assumption) | (go_simp; done) | (simp [*]; done))
  have hl8_2_2 : W8.cell? ⟨W3.heap.size, 2, none⟩ = some (.int .u16 rf) := (hc8 _ _ (by first | omega | go_size)).trans (by first | (with_reducible assumption) | go_cell)
  have hz8_2_2 : W8.frozen? ⟨W3.heap.size, 2, none⟩ = false := (hf8 _ _ (by first | omega | go_size)).trans (by first | (with_reducible assumption) | (go_simp; done) | (simp [*]; done))
  have hl8_2_3 : W8.cell? ⟨W3.heap.size, 3, none⟩ = some (.int .u16 rx) := (hc8 _ _ (by first | omega | go_size)).trans (by first | (with_reducible assumption) | go_cell)
  have hz8_2_3 : W8.frozen? ⟨W3.heap.size, 3, none⟩ = false := (hf8 _ _ (by first | omega | go_size)).trans (by first | (with_reducible assumption) | (go_simp; done) | (simp [*]; done))
  have hk8_2 : W3.heap.size < W8.heap.size := by omega
  have hl8_3_0 : W8.cell? ⟨W4.heap.size, 0, none⟩ = some (.int .u64 ra) := (hc8 _ _ (by first | omega | go_size)).trans (by first | (with_reducible assumption) | go_cell)
  have hz8_3_0 : W8.frozen? ⟨W4.heap.size, 0, none⟩ = false := (hf8 _ _ (by first | omega | go_size)).trans (by first | (with_reducible assumption) | (go_simp; done) | (simp [*]; done))
  have hl8_3_1 : W8.cell? ⟨W4.heap.size, 1, none⟩ = some (.int .u32 rl) := (hc8 _ _ (by first | omega | go_size)).trans (by first | (with_reducible assumption) | go_cell)
  have hz8_3_1 : W8.frozen? ⟨W4.heap.size, 1, none⟩ = false := (hf8 _ _ (by first | omega | go_size)).trans (by first | (with_reducible assumption) | (go_simp; done) | (simp [*]; done))
  have hl8_3_2 : W8.cell? ⟨W4.heap.size, 2, none⟩ = some (.int .u16 rf) := (hc8 _ _ (by first | omega | go_size)).trans (by first | (with_reducible assumption) | go_cell)
  have hz8_3_2 : W8.frozen? ⟨W4.heap.size, 2, none⟩ = false := (hf8 _ _ (by first | omega | go_size)).trans (by first | (with_reducible assumption) | (go_simp; done) | (simp [*]; done))
  have hl8_3_3 : W8.cell? ⟨W4.heap.size, 3, none⟩ = some (.int .u16 rx) := (hc8 _ _ (by first | omega | go_size)).trans (by first | (with_reducible assumption) | go_cell)
  have hz8_3_3 : W8.frozen? ⟨W4.heap.size, 3, none⟩ = false := (hf8 _ _ (by first | omega | go_size)).trans (by first | (with_reducible assumption) | (go_simp; done) | (simp [*]; done))
  have hk8_3 : W4.heap.size < W8.heap.size := by omega
  have hl8_4_0 : W8.cell? ⟨W6.heap.size, 0, none⟩ = some (.int .u64 ra) := (hc8 _ _ (by first | omega | go_size)).trans (by first | (with_reducible assumption) | go_cell)
  have hz8_4_0 : W8.frozen? ⟨W6.heap.size, 0, none⟩ = false := (hf8 _ _ (by first | omega | go_size)).trans (by first | (with_reducible assumption) | (go_simp; done) | (simp [*]; done))
  have hl8_4_1 : W8.cell? ⟨W6.heap.size, 1, none⟩ = some (.int .u32 rl) := (hc8 _ _ (by first | omega | go_size)).trans (by first | (with_reducible assumption) | go_cell)
  have hz8_4_1 : W8.frozen? ⟨W6.heap.size, 1, none⟩ = false := (hf8 _ _ (by first | omega | go_size)).trans (by first | (with_reducible assumption) | (go_simp; done) | (simp [*]; done))
  have hl8_4_2 : W8.cell? ⟨W6.heap.size, 2, none⟩ = some (.int .u16 rf) := (hc8 _ _ (by first | omega | go_size)).trans (by first | (with_reducible assumption) | go_cell)
  have hz8_4_2 : W8.frozen? ⟨W6.heap.size, 2, none⟩ = false := (hf8 _ _ (by first | omega | go_size)).trans (by first | (with_reducible assumption) | (go_simp; done) | (simp [*]; done))
  have hl8_4_3 : W8.cell? ⟨W6.heap.size, 3, none⟩ = some (.int .u16 rx) := (hc8 _ _ (by first | omega | go_size)).trans (by first | (with_reducible assumption) | go_cell)
  have hz8_4_3 : W8.frozen? ⟨W6.heap.size, 3, none⟩ = false := (hf8 _ _ (by first | omega | go_size)).trans (by first | (with_reducible assumption) | (go_simp; done) | (simp [*]; done))
  have hk8_4 : W6.heap.size < W8.heap.size := by omega
  have hl8_5_0 : W8.cell? ⟨W7.heap.size, 0, none⟩ = some (.int .u64 ra) := (hc8 _ _ (by first | omega | go_size)).trans (by first | (with_reducible assumption) | go_cell)
  have hz8_5_0 : W8.frozen? ⟨W7.heap.size, 0, none⟩ = false := (hf8 _ _ (by first | omega | go_size)).trans (by first | (with_reducible assumption) | (go_simp; done) | (simp [*]; done))
  have hl8_5_1 : W8.cell? ⟨W7.heap.size, 1, none⟩ = some (.int .u32 rl) := (hc8 _ _ (by first | omega | go_size)).trans (by first | (with_reducible assumption) | go_cell)
  have hz8_5_1 : W8.frozen? ⟨W7.heap.size, 1, none⟩ = false := (hf8 _ _ (by first | omega | go_size)).trans (by first | (with_reducible assumption) | (go_simp; done) | (simp [*]; done))
  have hl8_5_2 : W8.cell? ⟨W7.heap.size, 2, none⟩ = some (.int .u16 rf) := (hc8 _ _ (by first | omega | go_size)).trans (by first | (with_reducible assumption) | go_cell)
  have hz8_5_2 : W8.frozen? ⟨W7.heap.size, 2, none⟩ = false := (hf8 _ _ (by first | omega | go_size)).trans (by first | (with_reducible assumption) | (go_simp; done) | (simp [*]; done))
  have hl8_5_3 : W8.cell? ⟨W7.heap.size, 3, none⟩ = some (.int .u16 rx) := (hc8 _ _ (by first | omega | go_size)).trans (by first | (with_reducible assumption) | go_cell)
  have hz8_5_3 : W8.frozen? ⟨W7.heap.size, 3, none⟩ = false := (hf8 _ _ (by first | omega | go_size)).trans (by first | (with_reducible assumption) | (go_simp; done) | (simp [*]; done))
  have hk8_5 : W7.heap.size < W8.heap.size := by omega
  clear hg8 hc8 hf8
  go_wp2_with fail
  refine (table_tb A8 m c8 N te g _ HTB.out hm hc8 HG.out h8r).mono ?_
  rintro e W9 ⟨A9, c9, rfl, h9r, hg9⟩
  clear h8r hc8
  have hb9 : Below w.heap.size w W9 := (show Below w.heap.size w _ by go_grown).trans (hg9.mono (by first | omega | go_size))
  obtain ⟨hc9, hf9⟩ := bcell hg9
  have hs9 := hg9.size
  try simp only [World.size_alloc, World.size_setCell, World.size_drew] at hs9
  have hl9_0_0 : W9.cell? ⟨w.heap.size, 0, none⟩ = some (.int .u64 a) := (hc9 _ _ (by first | omega | go_size)).trans (by first | (with_reducible assumption) | go_cell)
  have hz9_0_0 : W9.frozen? ⟨w.heap.size, 0, none⟩ = false := (hf9 _ _ (by first | omega | go_size)).trans (by first | (with_reducible assumption) | (go_simp; done) | (simp [*]; done))
  have hl9_0_1 : W9.cell? ⟨w.heap.size, 1, none⟩ = some (.int .u32 l) := (hc9 _ _ (by first | omega | go_size)).trans (by first | (with_reducible assumption) | go_cell)
  have hz9_0_1 : W9.frozen? ⟨w.heap.size, 1, none⟩ = false := (hf9 _ _ (by first | omega | go_size)).trans (by first | (with_reducible assumption) | (go_simp; done) | (simp [*]; done))
  have hl9_0_2 : W9.cell? ⟨w.heap.size, 2, none⟩ = some (.int .u16 f) := (hc9 _ _ (by first | omega | go_size)).trans (by first | (with_reducible assumption) | go_cell)
  have hz9_0_2 : W9.frozen? ⟨w.heap.size, 2, none⟩ = false := (hf9 _ _ (by first | omega | go_size)).trans (by first | (with_reducible assumption) | (go_simp; done) | (simp [*]; done))
  have hl9_0_3 : W9.cell? ⟨w.heap.size, 3, none⟩ = some (.int .u16 x) := (hc9 _ _ (by first | omega | go_size)).trans (by first | (with_reducible assumption) | go_cell)
  have hz9_0_3 : W9.frozen? ⟨w.heap.size, 3, none⟩ = false := (hf9 _ _ (by first | omega | go_size)).trans (by first | (with_reducible assumption) | (go_simp; done) | (simp [*]; done))
  have hk9_0 : w.heap.size < W9.heap.size := by omega
  have hl9_1_0 : W9.cell? ⟨w.heap.size + 1, 0, none⟩ = some (.int .u64 pa) := (hc9 _ _ (by first | omega | go_size)).trans (by first | (with_reducible assumption) | go_cell)
  have hz9_1_0 : W9.frozen? ⟨w.heap.size + 1, 0, none⟩ = false := (hf9 _ _ (by first | omega | go_size)).trans (by first | (with_reducible assumption) | (go_simp; done) | (simp [*]; done))
  have hl9_1_1 : W9.cell? ⟨w.heap.size + 1, 1, none⟩ = some (.int .u32 pl) := (hc9 _ _ (by first | omega | go_size)).trans (by first | (with_reducible assumption) | go_cell)
  have hz9_1_1 : W9.frozen? ⟨w.heap.size + 1, 1, none⟩ = false := (hf9 _ _ (by first | omega | go_size)).trans (by first | (with_reducible assumption) | (go_simp; done) | (simp [*]; done))
  have hl9_1_2 : W9.cell? ⟨w.heap.size + 1, 2, none⟩ = some (.int .u16 pf) := (hc9 _ _ (by first | omega | go_size)).trans (by first | (with_reducible assumption) | go_cell)
  have hz9_1_2 : W9.frozen? ⟨w.heap.size + 1, 2, none⟩ = false := (hf9 _ _ (by first | omega | go_size)).trans (by first | (with_reducible assumption) | (go_simp; done) | (simp [*]; done))
  have hl9_1_3 : W9.cell? ⟨w.heap.size + 1, 3, none⟩ = some (.int .u16 px) := (hc9 _ _ (by first | omega | go_size)).trans (by first | (with_reducible assumption) | go_cell)
  have hz9_1_3 : W9.frozen? ⟨w.heap.size + 1, 3, none⟩ = false := (hf9 _ _ (by first | omega | go_size)).trans (by first | (with_reducible assumption) | (go_simp; done) | (simp [*]; done))
  have hk9_1 : w.heap.size + 1 < W9.heap.size := by omega
  have hl9_2_0 : W9.cell? ⟨W3.heap.size, 0, none⟩ = some (.int .u64 ra) := (hc9 _ _ (by first | omega | go_size)).trans (by first | (with_reducible assumption) | go_cell)
  have hz9_2_0 : W9.frozen? ⟨W3.heap.size, 0, none⟩ = false := (hf9 _ _ (by first | omega | go_size)).trans (by first | (with_reducible assumption) | (go_simp; done) | (simp [*]; done))
  have hl9_2_1 : W9.cell? ⟨W3.heap.size, 1, none⟩ = some (.int .u32 rl) := (hc9 _ _ (by first | omega | go_size)).trans (by first | (with_reducible assumption) | go_cell)
  have hz9_2_1 : W9.frozen? ⟨W3.heap.size, 1, none⟩ = false := (hf9 _ _ (by first | omega | go_size)).trans (by first | (with_reducible assumption) | (go_simp; done) | (simp [*]; done))
  have hl9_2_2 : W9.cell? ⟨W3.heap.size, 2, none⟩ = some (.int .u16 rf) := (hc9 _ _ (by first | omega | go_size)).trans (by first | (with_reducible assumption) | go_cell)
  have hz9_2_2 : W9.frozen? ⟨W3.heap.size, 2, none⟩ = false := (hf9 _ _ (by first | omega | go_size)).trans (by first | (with_reducible assumption) | (go_simp; done) | (simp [*]; done))
  have hl9_2_3 : W9.cell? ⟨W3.heap.size, 3, none⟩ = some (.int .u16 rx) := (hc9 _ _ (by first | omega | go_size)).trans (by first | (with_reducible assumption) | go_cell)
  have hz9_2_3 : W9.frozen? ⟨W3.heap.size, 3, none⟩ = false := (hf9 _ _ (by first | omega | go_size)).trans (by first | (with_reducible assumption) | (go_simp; done) | (simp [*]; done))
  have hk9_2 : W3.heap.size < W9.heap.size := by omega
  have hl9_3_0 : W9.cell? ⟨W4.heap.size, 0, none⟩ = some (.int .u64 ra) := (hc9 _ _ (by first | omega | go_size)).trans (by first | (with_reducible assumption) | go_cell)
  have hz9_3_0 : W9.frozen? ⟨W4.heap.size, 0, none⟩ = false := (hf9 _ _ (by first | omega | go_size)).trans (by first | (with_reducible assumption) | (go_simp; done) | (simp [*]; done))
  have hl9_3_1 : W9.cell? ⟨W4.heap.size, 1, none⟩ = some (.int .u32 rl) := (hc9 _ _ (by first | omega | go_size)).trans (by first | (with_reducible assumption) | go_cell)
  have hz9_3_1 : W9.frozen? ⟨W4.heap.size, 1, none⟩ = false := (hf9 _ _ (by first | omega | go_size)).trans (by first | (with_reducible assumption) | (go_simp; done) | (simp [*]; done))
  have hl9_3_2 : W9.cell? ⟨W4.heap.size, 2, none⟩ = some (.int .u16 rf) := (hc9 _ _ (by first | omega | go_size)).trans (by first | (with_reducible assumption) | go_cell)
  have hz9_3_2 : W9.frozen? ⟨W4.heap.size, 2, none⟩ = false := (hf9 _ _ (by first | omega | go_size)).trans (by first | (with_reducible assumption) | (go_simp; done) | (simp [*]; done))
  have hl9_3_3 : W9.cell? ⟨W4.heap.size, 3, none⟩ = some (.int .u16 rx) := (hc9 _ _ (by first | omega | go_size)).trans (by first | (with_reducible assumption) | go_cell)
  have hz9_3_3 : W9.frozen? ⟨W4.heap.size, 3, none⟩ = false := (hf9 _ _ (by first | omega | go_size)).trans (by first | (with_reducible assumption) | (go_simp; done) | (simp [*]; done))
  have hk9_3 : W4.heap.size < W9.heap.size := by omega
  have hl9_4_0 : W9.cell? ⟨W6.heap.size, 0, none⟩ = some (.int .u64 ra) := (hc9 _ _ (by first | omega | go_size)).trans (by first | (with_reducible assumption) | go_cell)
  have hz9_4_0 : W9.frozen? ⟨W6.heap.size, 0, none⟩ = false := (hf9 _ _ (by first | omega | go_size)).trans (by first | (with_reducible assumption) | (go_simp; done) | (simp [*]; done))
  have hl9_4_1 : W9.cell? ⟨W6.heap.size, 1, none⟩ = some (.int .u32 rl) := (hc9 _ _ (by first | omega | go_size)).trans (by first | (with_reducible assumption) | go_cell)
  have hz9_4_1 : W9.frozen? ⟨W6.heap.size, 1, none⟩ = false := (hf9 _ _ (by first | omega | go_size)).trans (by first | (with_reducible assumption) | (go_simp; done) | (simp [*]; done))
  have hl9_4_2 : W9.cell? ⟨W6.heap.size, 2, none⟩ = some (.int .u16 rf) := (hc9 _ _ (by first | omega | go_size)).trans (by first | (with_reducible assumption) | go_cell)
  have hz9_4_2 : W9.frozen? ⟨W6.heap.size, 2, none⟩ = false := (hf9 _ _ (by first | omega | go_size)).trans (by first | (with_reducible assumption) | (go_simp; done) | (simp [*]; done))
  have hl9_4_3 : W9.cell? ⟨W6.heap.size, 3, none⟩ = some (.int .u16 rx) := (hc9 _ _ (by first | omega | go_size)).trans (by first | (with_reducible assumption) | go_cell)
  have hz9_4_3 : W9.frozen? ⟨W6.heap.size, 3, none⟩ = false := (hf9 _ _ (by first | omega | go_size)).trans (by first | (with_reducible assumption) | (go_simp; done) | (simp [*]; done))
  have hk9_4 : W6.heap.size < W9.heap.size := by omega
  have hl9_5_0 : W9.cell? ⟨W7.heap.size, 0, none⟩ = some (.int .u64 ra) := (hc9 _ _ (by first | omega | go_size)).trans (by first | (with_reducible assumption) | go_cell)
  have hz9_5_0 : W9.frozen? ⟨W7.heap.size, 0, none⟩ = false := (hf9 _ _ (by first | omega | go_size)).trans (by first | (with_reducible assumption) | (go_simp; done) | (simp [*]; done))
  have hl9_5_1 : W9.cell? ⟨W7.heap.size, 1, none⟩ = some (.int .u32 rl) := (hc9 _ _ (by first | omega | go_size)).trans (by first | (with_reducible assumption) | go_cell)
  have hz9_5_1 : W9.frozen? ⟨W7.heap.size, 1, none⟩ = false := (hf9 _ _ (by first | omega | go_size)).trans (by first | (with_reducible assumption) | (go_simp; done) | (simp [*]; done))
  have hl9_5_2 : W9.cell? ⟨W7.heap.size, 2, none⟩ = some (.int .u16 rf) := (hc9 _ _ (by first | omega | go_size)).trans (by first | (with_reducible assumption) | go_cell)
  have hz9_5_2 : W9.frozen? ⟨W7.heap.size, 2, none⟩ = false := (hf9 _ _ (by first | omega | go_size)).trans (by first | (with_reducible assumption) | (go_simp; done) | (simp [*]; done))
  have hl9_5_3 : W9.cell? ⟨W7.heap.size, 3, none⟩ = some (.int .u16 rx) := (hc9 _ _ (by first | omega | go_size)).trans (by first | (with_reducible assumption) | go_cell)
  have hz9_5_3 : W9.frozen? ⟨W7.heap.size, 3, none⟩ = false := (hf9 _ _ (by first | omega | go_size)).trans (by first | (with_reducible assumption) | (go_simp; done) | (simp [*]; done))
  have hk9_5 : W7.heap.size < W9.heap.size := by omega
  clear hg9 hc9 hf9
  go_wp2_with fail
  refine (r_table_tb B m cb N te g _ HTB.out hm hcb hcb2 HG.out (rowAt HB.out (by go_grown))).mono ?_
  rintro e W10 ⟨A10, c10, rfl, h10r, hg10⟩
  have h9 := rowAt h9r hg10
  clear h9r
  have hb10 : Below w.heap.size w W10 := (show Below w.heap.size w _ by go_grown).trans (hg10.mono (by first | omega | go_size))
  obtain ⟨hc10, hf10⟩ := bcell hg10
  have hs10 := hg10.size
  try simp only [World.size_alloc, World.size_setCell, World.size_drew] at hs10
  have hl10_0_0 : W10.cell? ⟨w.heap.size, 0, none⟩ = some (.int .u64 a) := (hc10 _ _ (by first | omega | go_size)).trans (by first | (with_reducible assumption) | go_cell)
  have hz10_0_0 : W10.frozen? ⟨w.heap.size, 0, none⟩ = false := (hf10 _ _ (by first | omega | go_size)).trans (by first | (with_reducible assumption) | (go_simp; done) | (simp [*]; done))
  have hl10_0_1 : W10.cell? ⟨w.heap.size, 1, none⟩ = some (.int .u32 l) := (hc10 _ _ (by first | omega | go_size)).trans (by first | (with_reducible assumption) | go_cell)
  have hz10_0_1 : W10.frozen? ⟨w.heap.size, 1, none⟩ = false := (hf10 _ _ (by first | omega | go_size)).trans (by first | (with_reducible assumption) | (go_simp; done) | (simp [*]; done))
  have hl10_0_2 : W10.cell? ⟨w.heap.size, 2, none⟩ = some (.int .u16 f) := (hc10 _ _ (by first | omega | go_size)).trans (by first | (with_reducible assumption) | go_cell)
  have hz10_0_2 : W10.frozen? ⟨w.heap.size, 2, none⟩ = false := (hf10 _ _ (by first | omega | go_size)).trans (by first | (with_reducible assumption) | (go_simp; done) | (simp [*]; done))
  have hl10_0_3 : W10.cell? ⟨w.heap.size, 3, none⟩ = some (.int .u16 x) := (hc10 _ _ (by first | omega | go_size)).trans (by first | (with_reducible assumption) | go_cell)
  have hz10_0_3 : W10.frozen? ⟨w.heap.size, 3, none⟩ = false := (hf10 _ _ (by first | omega | go_size)).trans (by first | (with_reducible assumption) | (go_simp; done) | (simp [*]; done))
  have hk10_0 : w.heap.size < W10.heap.size := by omega
  have hl10_1_0 : W10.cell? ⟨w.heap.size + 1, 0, none⟩ = some (.int .u64 pa) := (hc10 _ _ (by first | omega | go_size)).trans (by first | (with_reducible assumption) | go_cell)
  have hz10_1_0 : W10.frozen? ⟨w.heap.size + 1, 0, none⟩ = false := (hf10 _ _ (by first | omega | go_size)).trans (by first | (with_reducible assumption) | (go_simp; done) | (simp [*]; done))
  have hl10_1_1 : W10.cell? ⟨w.heap.size + 1, 1, none⟩ = some (.int .u32 pl) := (hc10 _ _ (by first | omega | go_size)).trans (by first | (with_reducible assumption) | go_cell)
  have hz10_1_1 : W10.frozen? ⟨w.heap.size + 1, 1, none⟩ = false := (hf10 _ _ (by first | omega | go_size)).trans (by first | (with_reducible assumption) | (go_simp; done) | (simp [*]; done))
  have hl10_1_2 : W10.cell? ⟨w.heap.size + 1, 2, none⟩ = some (.int .u16 pf) := (hc10 _ _ (by first | omega | go_size)).trans (by first | (with_reducible assumption) | go_cell)
  have hz10_1_2 : W10.frozen? ⟨w.heap.size + 1, 2, none⟩ = false := (hf10 _ _ (by first | omega | go_size)).trans (by first | (with_reducible assumption) | (go_simp; done) | (simp [*]; done))
  have hl10_1_3 : W10.cell? ⟨w.heap.size + 1, 3, none⟩ = some (.int .u16 px) := (hc10 _ _ (by first | omega | go_size)).trans (by first | (with_reducible assumption) | go_cell)
  have hz10_1_3 : W10.frozen? ⟨w.heap.size + 1, 3, none⟩ = false := (hf10 _ _ (by first | omega | go_size)).trans (by first | (with_reducible assumption) | (go_simp; done) | (simp [*]; done))
  have hk10_1 : w.heap.size + 1 < W10.heap.size := by omega
  have hl10_2_0 : W10.cell? ⟨W3.heap.size, 0, none⟩ = some (.int .u64 ra) := (hc10 _ _ (by first | omega | go_size)).trans (by first | (with_reducible assumption) | go_cell)
  have hz10_2_0 : W10.frozen? ⟨W3.heap.size, 0, none⟩ = false := (hf10 _ _ (by first | omega | go_size)).trans (by first | (with_reducible assumption) | (go_simp; done) | (simp [*]; done))
  have hl10_2_1 : W10.cell? ⟨W3.heap.size, 1, none⟩ = some (.int .u32 rl) := (hc10 _ _ (by first | omega | go_size)).trans (by first | (with_reducible assumption) | go_cell)
  have hz10_2_1 : W10.frozen? ⟨W3.heap.size, 1, none⟩ = false := (hf10 _ _ (by first | omega | go_size)).trans (by first | (with_reducible assumption) | (go_simp; done) | (simp [*]; done))
  have hl10_2_2 : W10.cell? ⟨W3.heap.size, 2, none⟩ = some (.int .u16 rf) := (hc10 _ _ (by first | omega | go_size)).trans (by first | (with_reducible assumption) | go_cell)
  have hz10_2_2 : W10.frozen? ⟨W3.heap.size, 2, none⟩ = false := (hf10 _ _ (by first | omega | go_size)).trans (by first | (with_reducible assumption) | (go_simp; done) | (simp [*]; done))
  have hl10_2_3 : W10.cell? ⟨W3.heap.size, 3, none⟩ = some (.int .u16 rx) := (hc10 _ _ (by first | omega | go_size)).trans (by first | (with_reducible assumption) | go_cell)
  have hz10_2_3 : W10.frozen? ⟨W3.heap.size, 3, none⟩ = false := (hf10 _ _ (by first | omega | go_size)).trans (by first | (with_reducible assumption) | (go_simp; done) | (simp [*]; done))
  have hk10_2 : W3.heap.size < W10.heap.size := by omega
  have hl10_3_0 : W10.cell? ⟨W4.heap.size, 0, none⟩ = some (.int .u64 ra) := (hc10 _ _ (by first | omega | go_size)).trans (by first | (with_reducible assumption) | go_cell)
  have hz10_3_0 : W10.frozen? ⟨W4.heap.size, 0, none⟩ = false := (hf10 _ _ (by first | omega | go_size)).trans (by first | (with_reducible assumption) | (go_simp; done) | (simp [*]; done))
  have hl10_3_1 : W10.cell? ⟨W4.heap.size, 1, none⟩ = some (.int .u32 rl) := (hc10 _ _ (by first | omega | go_size)).trans (by first | (with_reducible assumption) | go_cell)
  have hz10_3_1 : W10.frozen? ⟨W4.heap.size, 1, none⟩ = false := (hf10 _ _ (by first | omega | go_size)).trans (by first | (with_reducible assumption) | (go_simp; done) | (simp [*]; done))
  have hl10_3_2 : W10.cell? ⟨W4.heap.size, 2, none⟩ = some (.int .u16 rf) := (hc10 _ _ (by first | omega | go_size)).trans (by first | (with_reducible assumption) | go_cell)
  have hz10_3_2 : W10.frozen? ⟨W4.heap.size, 2, none⟩ = false := (hf10 _ _ (by first | omega | go_size)).trans (by first | (with_reducible assumption) | (go_simp; done) | (simp [*]; done))
  have hl10_3_3 : W10.cell? ⟨W4.heap.size, 3, none⟩ = some (.int .u16 rx) := (hc10 _ _ (by first | omega | go_size)).trans (by first | (with_reducible assumption) | go_cell)
  have hz10_3_3 : W10.frozen? ⟨W4.heap.size, 3, none⟩ = false := (hf10 _ _ (by first | omega | go_size)).trans (by first | (with_reducible assumption) | (go_simp; done) | (simp [*]; done))
  have hk10_3 : W4.heap.size < W10.heap.size := by omega
  have hl10_4_0 : W10.cell? ⟨W6.heap.size, 0, none⟩ = some (.int .u64 ra) := (hc10 _ _ (by first | omega | go_size)).trans (by first | (with_reducible assumption) | go_cell)
  have hz10_4_0 : W10.frozen? ⟨W6.heap.size, 0, none⟩ = false := (hf10 _ _ (by first | omega | go_size)).trans (by first | (with_reducible assumption) | (go_simp; done) | (simp [*]; done))
  have hl10_4_1 : W10.cell? ⟨W6.heap.size, 1, none⟩ = some (.int .u32 rl) := (hc10 _ _ (by first | omega | go_size)).trans (by first | (with_reducible assumption) | go_cell)
  have hz10_4_1 : W10.frozen? ⟨W6.heap.size, 1, none⟩ = false := (hf10 _ _ (by first | omega | go_size)).trans (by first | (with_reducible assumption) | (go_simp; done) | (simp [*]; done))
  have hl10_4_2 : W10.cell? ⟨W6.heap.size, 2, none⟩ = some (.int .u16 rf) := (hc10 _ _ (by first | omega | go_size)).trans (by first | (with_reducible assumption) | go_cell)
  have hz10_4_2 : W10.frozen? ⟨W6.heap.size, 2, none⟩ = false := (hf10 _ _ (by first | omega | go_size)).trans (by first | (with_reducible assumption) | (go_simp; done) | (simp [*]; done))
  have hl10_4_3 : W10.cell? ⟨W6.heap.size, 3, none⟩ = some (.int .u16 rx) := (hc10 _ _ (by first | omega | go_size)).trans (by first | (with_reducible assumption) | go_cell)
  have hz10_4_3 : W10.frozen? ⟨W6.heap.size, 3, none⟩ = false := (hf10 _ _ (by first | omega | go_size)).trans (by first | (with_reducible assumption) | (go_simp; done) | (simp [*]; done))
  have hk10_4 : W6.heap.size < W10.heap.size := by omega
  have hl10_5_0 : W10.cell? ⟨W7.heap.size, 0, none⟩ = some (.int .u64 ra) := (hc10 _ _ (by first | omega | go_size)).trans (by first | (with_reducible assumption) | go_cell)
  have hz10_5_0 : W10.frozen? ⟨W7.heap.size, 0, none⟩ = false := (hf10 _ _ (by first | omega | go_size)).trans (by first | (with_reducible assumption) | (go_simp; done) | (simp [*]; done))
  have hl10_5_1 : W10.cell? ⟨W7.heap.size, 1, none⟩ = some (.int .u32 rl) := (hc10 _ _ (by first | omega | go_size)).trans (by first | (with_reducible assumption) | go_cell)
  have hz10_5_1 : W10.frozen? ⟨W7.heap.size, 1, none⟩ = false := (hf10 _ _ (by first | omega | go_size)).trans (by first | (with_reducible assumption) | (go_simp; done) | (simp [*]; done))
  have hl10_5_2 : W10.cell? ⟨W7.heap.size, 2, none⟩ = some (.int .u16 rf) := (hc10 _ _ (by first | omega | go_size)).trans (by first | (with_reducible assumption) | go_cell)
  have hz10_5_2 : W10.frozen? ⟨W7.heap.size, 2, none⟩ = false := (hf10 _ _ (by first | omega | go_size)).trans (by first | (with_reducible assumption) | (go_simp; done) | (simp [*]; done))
  have hl10_5_3 : W10.cell? ⟨W7.heap.size, 3, none⟩ = some (.int .u16 rx) := (hc10 _ _ (by first | omega | go_size)).trans (by first | (with_reducible assumption) | go_cell)
  have hz10_5_3 : W10.frozen? ⟨W7.heap.size, 3, none⟩ = false := (hf10 _ _ (by first | omega | go_size)).trans (by first | (with_reducible assumption) | (go_simp; done) | (simp [*]; done))
  have hk10_5 : W7.heap.size < W10.heap.size := by omega
  clear hg10 hc10 hf10
  go_wp2_with fail
  refine (same_any A9 A10 N c9 c10 (tabD g) _ (by omega) h9 h10r).mono ?_
  rintro eE W11 ⟨rfl, hg11⟩
  have hb11 : Below w.heap.size w W11 := (show Below w.heap.size w _ by go_grown).trans (hg11.mono (by first | omega | go_size))
  obtain ⟨hc11, hf11⟩ := bcell hg11
  have hs11 := hg11.size
  try simp only [World.size_alloc, World.size_setCell, World.size_drew] at hs11
  have hl11_0_0 : W11.cell? ⟨w.heap.size, 0, none⟩ = some (.int .u64 a) := (hc11 _ _ (by first | omega | go_size)).trans (by first | (with_reducible assumption) | go_cell)
  have hz11_0_0 : W11.frozen? ⟨w.heap.size, 0, none⟩ = false := (hf11 _ _ (by first | omega | go_size)).trans (by first | (with_reducible assumption) | (go_simp; done) | (simp [*]; done))
  have hl11_0_1 : W11.cell? ⟨w.heap.size, 1, none⟩ = some (.int .u32 l) := (hc11 _ _ (by first | omega | go_size)).trans (by first | (with_reducible assumption) | go_cell)
  have hz11_0_1 : W11.frozen? ⟨w.heap.size, 1, none⟩ = false := (hf11 _ _ (by first | omega | go_size)).trans (by first | (with_reducible assumption) | (go_simp; done) | (simp [*]; done))
  have hl11_0_2 : W11.cell? ⟨w.heap.size, 2, none⟩ = some (.int .u16 f) := (hc11 _ _ (by first | omega | go_size)).trans (by first | (with_reducible assumption) | go_cell)
  have hz11_0_2 : W11.frozen? ⟨w.heap.size, 2, none⟩ = false := (hf11 _ _ (by first | omega | go_size)).trans (by first | (with_reducible assumption) | (go_simp; done) | (simp [*]; done))
  have hl11_0_3 : W11.cell? ⟨w.heap.size, 3, none⟩ = some (.int .u16 x) := (hc11 _ _ (by first | omega | go_size)).trans (by first | (with_reducible assumption) | go_cell)
  have hz11_0_3 : W11.frozen? ⟨w.heap.size, 3, none⟩ = false := (hf11 _ _ (by first | omega | go_size)).trans (by first | (with_reducible assumption) | (go_simp; done) | (simp [*]; done))
  have hk11_0 : w.heap.size < W11.heap.size := by omega
  have hl11_1_0 : W11.cell? ⟨w.heap.size + 1, 0, none⟩ = some (.int .u64 pa) := (hc11 _ _ (by first | omega | go_size)).trans (by first | (with_reducible assumption) | go_cell)
  have hz11_1_0 : W11.frozen? ⟨w.heap.size + 1, 0, none⟩ = false := (hf11 _ _ (by first | omega | go_size)).trans (by first | (with_reducible assumption) | (go_simp; done) | (simp [*]; done))
  have hl11_1_1 : W11.cell? ⟨w.heap.size + 1, 1, none⟩ = some (.int .u32 pl) := (hc11 _ _ (by first | omega | go_size)).trans (by first | (with_reducible assumption) | go_cell)
  have hz11_1_1 : W11.frozen? ⟨w.heap.size + 1, 1, none⟩ = false := (hf11 _ _ (by first | omega | go_size)).trans (by first | (with_reducible assumption) | (go_simp; done) | (simp [*]; done))
  have hl11_1_2 : W11.cell? ⟨w.heap.size + 1, 2, none⟩ = some (.int .u16 pf) := (hc11 _ _ (by first | omega | go_size)).trans (by first | (with_reducible assumption) | go_cell)
  have hz11_1_2 : W11.frozen? ⟨w.heap.size + 1, 2, none⟩ = false := (hf11 _ _ (by first | omega | go_size)).trans (by first | (with_reducible assumption) | (go_simp; done) | (simp [*]; done))
  have hl11_1_3 : W11.cell? ⟨w.heap.size + 1, 3, none⟩ = some (.int .u16 px) := (hc11 _ _ (by first | omega | go_size)).trans (by first | (with_reducible assumption) | go_cell)
  have hz11_1_3 : W11.frozen? ⟨w.heap.size + 1, 3, none⟩ = false := (hf11 _ _ (by first | omega | go_size)).trans (by first | (with_reducible assumption) | (go_simp; done) | (simp [*]; done))
  have hk11_1 : w.heap.size + 1 < W11.heap.size := by omega
  clear hg11 hc11 hf11
  go_wp2_with fail
  clear h9 h10r
  refine (R12.out _).mono ?_
  rintro eE W12 ⟨rfl, hg12⟩
  have hb12 : Below w.heap.size w W12 := (show Below w.heap.size w _ by go_grown).trans (hg12.mono (by first | omega | go_size))
  obtain ⟨hc12, hf12⟩ := bcell hg12
  have hs12 := hg12.size
  try simp only [World.size_alloc, World.size_setCell, World.size_drew] at hs12
  have hl12_0_0 : W12.cell? ⟨w.heap.size, 0, none⟩ = some (.int .u64 a) := (hc12 _ _ (by first | omega | go_size)).trans (by first | (with_reducible assumption) | go_cell)
  have hz12_0_0 : W12.frozen? ⟨w.heap.size, 0, none⟩ = false := (hf12 _ _ (by first | omega | go_size)).trans (by first | (with_reducible assumption) | (go_simp; done) | (simp [*]; done))
  have hl12_0_1 : W12.cell? ⟨w.heap.size, 1, none⟩ = some (.int .u32 l) := (hc12 _ _ (by first | omega | go_size)).trans (by first | (with_reducible assumption) | go_cell)
  have hz12_0_1 : W12.frozen? ⟨w.heap.size, 1, none⟩ = false := (hf12 _ _ (by first | omega | go_size)).trans (by first | (with_reducible assumption) | (go_simp; done) | (simp [*]; done))
  have hl12_0_2 : W12.cell? ⟨w.heap.size, 2, none⟩ = some (.int .u16 f) := (hc12 _ _ (by first | omega | go_size)).trans (by first | (with_reducible assumption) | go_cell)
  have hz12_0_2 : W12.frozen? ⟨w.heap.size, 2, none⟩ = false := (hf12 _ _ (by first | omega | go_size)).trans (by first | (with_reducible assumption) | (go_simp; done) | (simp [*]; done))
  have hl12_0_3 : W12.cell? ⟨w.heap.size, 3, none⟩ = some (.int .u16 x) := (hc12 _ _ (by first | omega | go_size)).trans (by first | (with_reducible assumption) | go_cell)
  have hz12_0_3 : W12.frozen? ⟨w.heap.size, 3, none⟩ = false := (hf12 _ _ (by first | omega | go_size)).trans (by first | (with_reducible assumption) | (go_simp; done) | (simp [*]; done))
  have hk12_0 : w.heap.size < W12.heap.size := by omega
  have hl12_1_0 : W12.cell? ⟨w.heap.size + 1, 0, none⟩ = some (.int .u64 pa) := (hc12 _ _ (by first | omega | go_size)).trans (by first | (with_reducible assumption) | go_cell)
  have hz12_1_0 : W12.frozen? ⟨w.heap.size + 1, 0, none⟩ = false := (hf12 _ _ (by first | omega | go_size)).trans (by first | (with_reducible assumption) | (go_simp; done) | (simp [*]; done))
  have hl12_1_1 : W12.cell? ⟨w.heap.size + 1, 1, none⟩ = some (.int .u32 pl) := (hc12 _ _ (by first | omega | go_size)).trans (by first | (with_reducible assumption) | go_cell)
  have hz12_1_1 : W12.frozen? ⟨w.heap.size + 1, 1, none⟩ = false := (hf12 _ _ (by first | omega | go_size)).trans (by first | (with_reducible assumption) | (go_simp; done) | (simp [*]; done))
  have hl12_1_2 : W12.cell? ⟨w.heap.size + 1, 2, none⟩ = some (.int .u16 pf) := (hc12 _ _ (by first | omega | go_size)).trans (by first | (with_reducible assumption) | go_cell)
  have hz12_1_2 : W12.frozen? ⟨w.heap.size + 1, 2, none⟩ = false := (hf12 _ _ (by first | omega | go_size)).trans (by first | (with_reducible assumption) | (go_simp; done) | (simp [*]; done))
  have hl12_1_3 : W12.cell? ⟨w.heap.size + 1, 3, none⟩ = some (.int .u16 px) := (hc12 _ _ (by first | omega | go_size)).trans (by first | (with_reducible assumption) | go_cell)
  have hz12_1_3 : W12.frozen? ⟨w.heap.size + 1, 3, none⟩ = false := (hf12 _ _ (by first | omega | go_size)).trans (by first | (with_reducible assumption) | (go_simp; done) | (simp [*]; done))
  have hk12_1 : w.heap.size + 1 < W12.heap.size := by omega
  clear hg12 hc12 hf12
  go_wp2_with fail
  refine (R13.out _).mono ?_
  rintro eE W13 ⟨rfl, hg13⟩
  have hb13 : Below w.heap.size w W13 := (show Below w.heap.size w _ by go_grown).trans (hg13.mono (by first | omega | go_size))
  obtain ⟨hc13, hf13⟩ := bcell hg13
  have hs13 := hg13.size
  try simp only [World.size_alloc, World.size_setCell, World.size_drew] at hs13
  have hl13_0_0 : W13.cell? ⟨w.heap.size, 0, none⟩ = some (.int .u64 a) := (hc13 _ _ (by first | omega | go_size)).trans (by first | (with_reducible assumption) | go_cell)
  have hz13_0_0 : W13.frozen? ⟨w.heap.size, 0, none⟩ = false := (hf13 _ _ (by first | omega | go_size)).trans (by first | (with_reducible assumption) | (go_simp; done) | (simp [*]; done))
  have hl13_0_1 : W13.cell? ⟨w.heap.size, 1, none⟩ = some (.int .u32 l) := (hc13 _ _ (by first | omega | go_size)).trans (by first | (with_reducible assumption) | go_cell)
  have hz13_0_1 : W13.frozen? ⟨w.heap.size, 1, none⟩ = false := (hf13 _ _ (by first | omega | go_size)).trans (by first | (with_reducible assumption) | (go_simp; done) | (simp [*]; done))
  have hl13_0_2 : W13.cell? ⟨w.heap.size, 2, none⟩ = some (.int .u16 f) := (hc13 _ _ (by first | omega | go_size)).trans (by first | (with_reducible assumption) | go_cell)
  have hz13_0_2 : W13.frozen? ⟨w.heap.size, 2, none⟩ = false := (hf13 _ _ (by first | omega | go_size)).trans (by first | (with_reducible assumption) | (go_simp; done) | (simp [*]; done))
  have hl13_0_3 : W13.cell? ⟨w.heap.size, 3, none⟩ = some (.int .u16 x) := (hc13 _ _ (by first | omega | go_size)).trans (by first | (with_reducible assumption) | go_cell)
  have hz13_0_3 : W13.frozen? ⟨w.heap.size, 3, none⟩ = false := (hf13 _ _ (by first | omega | go_size)).trans (by first | (with_reducible assumption) | (go_simp; done) | (simp [*]; done))
  have hk13_0 : w.heap.size < W13.heap.size := by omega
  have hl13_1_0 : W13.cell? ⟨w.heap.size + 1, 0, none⟩ = some (.int .u64 pa) := (hc13 _ _ (by first | omega | go_size)).trans (by first | (with_reducible assumption) | go_cell)
  have hz13_1_0 : W13.frozen? ⟨w.heap.size + 1, 0, none⟩ = false := (hf13 _ _ (by first | omega | go_size)).trans (by first | (with_reducible assumption) | (go_simp; done) | (simp [*]; done))
  have hl13_1_1 : W13.cell? ⟨w.heap.size + 1, 1, none⟩ = some (.int .u32 pl) := (hc13 _ _ (by first | omega | go_size)).trans (by first | (with_reducible assumption) | go_cell)
  have hz13_1_1 : W13.frozen? ⟨w.heap.size + 1, 1, none⟩ = false := (hf13 _ _ (by first | omega | go_size)).trans (by first | (with_reducible assumption) | (go_simp; done) | (simp [*]; done))
  have hl13_1_2 : W13.cell? ⟨w.heap.size + 1, 2, none⟩ = some (.int .u16 pf) := (hc13 _ _ (by first | omega | go_size)).trans (by first | (with_reducible assumption) | go_cell)
  have hz13_1_2 : W13.frozen? ⟨w.heap.size + 1, 2, none⟩ = false := (hf13 _ _ (by first | omega | go_size)).trans (by first | (with_reducible assumption) | (go_simp; done) | (simp [*]; done))
  have hl13_1_3 : W13.cell? ⟨w.heap.size + 1, 3, none⟩ = some (.int .u16 px) := (hc13 _ _ (by first | omega | go_size)).trans (by first | (with_reducible assumption) | go_cell)
  have hz13_1_3 : W13.frozen? ⟨w.heap.size + 1, 3, none⟩ = false := (hf13 _ _ (by first | omega | go_size)).trans (by first | (with_reducible assumption) | (go_simp; done) | (simp [*]; done))
  have hk13_1 : w.heap.size + 1 < W13.heap.size := by omega
  clear hg13 hc13 hf13
  go_wp2_with fail
  obtain ⟨V, hV⟩ : ∃ V, (W13.alloc (.cells #[.int .u32 ui, .int .u32 un] 74)).alloc (.cells #[.int .u16 ei, .int .u16 en] 77) = V := ⟨_, rfl⟩
  rw [hV]
  have hB : Below W13.heap.size W13 V := by rw [← hV]; exact ((Below.refl _ _).alloc (Nat.le_refl _) _).alloc (by simp) _
  have hbV : Below w.heap.size w V := hb13.trans (hB.mono hb13.size)
  have e14 := bcell hB
  have hsV := hB.size
  have hk3 : W13.heap.size < V.heap.size := by rw [← hV]; simp; omega
  have hk4 : W13.heap.size + 1 < V.heap.size := by rw [← hV]; simp
  have hC22 := cells22 W13 (.int .u32 ui) (.int .u32 un) (.int .u16 ei) (.int .u16 en) 74 77
  rw [hV] at hC22
  obtain ⟨⟨q0, q1, q2, q3⟩, z0, z1, z2, z3⟩ := hC22
  refine Asrt.to_ops (id := 14) (ops := DescCallsR14.OPS) (by kernel_rfl) ?_
  refine Asrt.wp_region_assert (by kernel_rfl) (by kernel_rfl) (Lib.Held w V [(w.heap.size, 0, (.int .u64 a : Value)), (w.heap.size, 1, (.int .u32 l : Value)), (w.heap.size, 2, (.int .u16 f : Value)), (w.heap.size, 3, (.int .u16 x : Value)), (w.heap.size + 1, 0, (.int .u64 pa : Value)), (w.heap.size + 1, 1, (.int .u32 pl : Value)), (w.heap.size + 1, 2, (.int .u16 pf : Value)), (w.heap.size + 1, 3, (.int .u16 px : Value)), (W13.heap.size, 0, (.int .u32 ui : Value)), (W13.heap.size, 1, (.int .u32 un : Value)), (W13.heap.size + 1, 0, (.int .u16 ei : Value)), (W13.heap.size + 1, 1, (.int .u16 en : Value))]) [(107, .is (descV a l f x)), (108, .cut 1 16 (u8F (descG a l f x))), (109, .is (.string (DesArgs.strOf (descG a l f x) 16))), (110, .is (descV a l f x)), (111, .cut 1 16 (u8F (descG a l f x))), (112, .is (.string (DesArgs.strOf (descG a l f x) 16))), (113, .is (.bool true)), (114, .is (.bool true)), (115, .is (descV pa pl pf px)), (116, .cut 1 16 (u8F (descG pa pl pf px))), (117, .is (.string (DesArgs.strOf (descG pa pl pf px) 16))), (118, .is (descV pa pl pf px)), (119, .cut 1 16 (u8F (descG pa pl pf px))), (120, .is (.string (DesArgs.strOf (descG pa pl pf px) 16))), (121, .is (.bool true)), (122, .is (.bool true)), (123, .is (.bool true)), (124, .is (.int .u64 wd)), (125, .is (.agg #[.int .u32 ui, .int .u32 un])), (126, .is (.agg #[.int .u32 ui, .int .u32 un])), (127, .is (.bool true)), (128, .is (.bool true)), (129, .is (.bool true)), (130, .is (.int .u64 wd)), (131, .is (.agg #[.int .u16 ei, .int .u16 en])), (132, .is (.agg #[.int .u16 ei, .int .u16 en])), (133, .is (.bool true)), (134, .is (.bool true)), (135, .is (.bool true)), (136, .is (.agg #[.int .u32 ui, .int .u32 un])), (137, .is (.int .u64 (ui + un * 4294967296))), (138, .is (.agg #[.int .u32 ui, .int .u32 un])), (139, .is (.int .u64 (ui + un * 4294967296))), (140, .is (.bool true)), (141, .is (.bool true)), (142, .is (.bool true)), (143, .is (.agg #[.int .u16 ei, .int .u16 en])), (144, .is (.int .u64 (ei + en * 65536))), (145, .is (.agg #[.int .u16 ei, .int .u16 en])), (146, .is (.int .u64 (ei + en * 65536))), (147, .is (.bool true)), (148, .is (.bool true)), (149, .is (.bool true)), (150, .is (.slice A n c)), (151, .cut 1 (16 * n) (u8F d.byte)), (152, .is (.string (DesArgs.strOf d.byte (16 * n)))), (153, .is (.slice A n c)), (154, .cut 1 (16 * n) (u8F d.byte)), (155, .is (.string (DesArgs.strOf d.byte (16 * n)))), (156, .is (.bool true)), (157, .is (.bool true)), (158, .is (.bool true)), (159, .is (.int .u16 fl)), (160, .is (.bool wr)), (161, .is (.bool (availB fl wr))), (162, .is (.int .u16 fl)), (163, .is (.bool wr)), (164, .is (.bool (availB fl wr))), (165, .is (.bool true)), (166, .is (.bool true)), (167, .is (.bool true)), (168, .is (.int .u16 fl)), (169, .is (.bool wr)), (170, .is (.bool (usedB fl wr))), (171, .is (.int .u16 fl)), (172, .is (.bool wr)), (173, .is (.bool (usedB fl wr))), (174, .is (.bool true)), (175, .is (.bool true)), (176, .is (.bool true)), (177, .is (.int .u16 fl)), (178, .is (.bool wr)), (179, .is (.bool us)), (180, .is (.int .u16 (markI fl wr us))), (181, .is (.int .u16 fl)), (182, .is (.bool wr)), (183, .is (.bool us)), (184, .is (.int .u16 (markI fl wr us))), (185, .is (.bool true)), (186, .is (.bool true)), (16, .is (.bool true))] ⟨hbV.drew, (Below.refl _ _).drew, ⟨Nat.lt_of_lt_of_le hk13_0 hsV, (e14.1 _ _ hk13_0).trans hl13_0_0, (e14.2 _ _ hk13_0).trans hz13_0_0⟩, ⟨Nat.lt_of_lt_of_le hk13_0 hsV, (e14.1 _ _ hk13_0).trans hl13_0_1, (e14.2 _ _ hk13_0).trans hz13_0_1⟩, ⟨Nat.lt_of_lt_of_le hk13_0 hsV, (e14.1 _ _ hk13_0).trans hl13_0_2, (e14.2 _ _ hk13_0).trans hz13_0_2⟩, ⟨Nat.lt_of_lt_of_le hk13_0 hsV, (e14.1 _ _ hk13_0).trans hl13_0_3, (e14.2 _ _ hk13_0).trans hz13_0_3⟩, ⟨Nat.lt_of_lt_of_le hk13_1 hsV, (e14.1 _ _ hk13_1).trans hl13_1_0, (e14.2 _ _ hk13_1).trans hz13_1_0⟩, ⟨Nat.lt_of_lt_of_le hk13_1 hsV, (e14.1 _ _ hk13_1).trans hl13_1_1, (e14.2 _ _ hk13_1).trans hz13_1_1⟩, ⟨Nat.lt_of_lt_of_le hk13_1 hsV, (e14.1 _ _ hk13_1).trans hl13_1_2, (e14.2 _ _ hk13_1).trans hz13_1_2⟩, ⟨Nat.lt_of_lt_of_le hk13_1 hsV, (e14.1 _ _ hk13_1).trans hl13_1_3, (e14.2 _ _ hk13_1).trans hz13_1_3⟩, ⟨hk3, q0, z0⟩, ⟨hk3, q1, z1⟩, ⟨hk4, q2, z2⟩, ⟨hk4, q3, z3⟩, trivial⟩ (by kernel_rfl) (by kernel_rfl) (DescCallsR14.obs w V W13 a l f x pa pl pf px wd ui un ei en fl wr us A n c d HA.out HP.out hw HE.out.1 HE.out.2.1 HE.out.2.2.1 HE.out.2.2.2 hn HD.out (rowAt HL.out hbV) _ (fun _ _ => rfl) (fun _ _ => rfl) (fun _ _ => rfl) (fun _ _ => rfl) (fun _ _ => rfl) (fun _ _ => rfl) (fun _ _ => rfl) (fun _ _ => rfl) (fun _ _ => rfl) (fun _ _ => rfl) (fun _ _ => rfl) (fun _ _ => rfl) (fun _ _ => rfl) (fun _ _ => rfl) (fun _ _ => rfl) (fun _ _ => rfl) (fun _ _ => rfl) (fun _ _ => rfl) (fun _ _ => rfl) (fun _ _ => rfl) (fun _ _ => rfl) (fun _ _ => rfl) (fun _ _ => rfl) (fun _ _ => rfl) (fun _ _ => rfl) (fun _ _ => rfl) (fun _ _ => rfl) (fun _ _ => rfl) (fun _ _ => rfl) (fun _ _ => rfl) (fun _ _ => rfl) (fun _ _ => rfl) (fun _ _ => rfl) (fun _ _ => rfl) (fun _ _ => rfl) (fun _ _ => rfl) (fun _ _ => rfl) (fun _ _ => rfl) (fun _ _ => rfl) (fun _ _ => rfl) (fun _ _ => rfl) (fun _ _ => rfl) (fun _ _ => rfl) (fun _ _ => rfl) (fun _ _ => rfl) (fun _ _ => rfl) (fun _ _ => rfl) (fun _ _ => rfl) (fun _ _ => rfl) (fun _ _ => rfl) (fun _ _ => rfl) (fun _ _ => rfl) (fun _ _ => rfl) (fun _ _ => rfl) (fun _ _ => rfl) (fun _ _ => rfl) (fun _ _ => rfl) (fun _ _ => rfl) (fun _ _ => rfl) (fun _ _ => rfl) (fun _ _ => rfl) (fun _ _ => rfl) (fun _ _ => rfl) (fun _ _ => rfl) (fun _ _ => rfl) (fun _ _ => rfl) (fun _ _ => rfl) (fun _ _ => rfl) (fun _ _ => rfl) (fun _ _ => rfl) (fun _ _ => rfl) (fun _ _ => rfl) (fun _ _ => rfl) (fun _ _ => rfl) (fun _ _ => rfl) (fun _ _ => rfl) (fun _ _ => rfl) (fun _ _ => rfl) (fun _ _ => rfl) (fun _ _ => rfl) (fun _ _ => rfl) (fun _ _ => rfl) (fun _ _ => rfl) (fun _ _ => rfl) (fun _ _ => rfl) (fun _ _ => rfl) (fun _ _ => rfl) (fun _ _ => rfl) (fun _ _ => rfl) (fun _ _ => rfl)) ?_
  intro a14 w14 hC14 hB14 hs14 hd14 hT14 hU14
  have e16 : a14.tmps.getD 16 undef = .bool true := hT14 16 _ rfl
  rename_i K hK
  refine hK _ _ (wp_ret ?_)
  refine bodyPost_ret (results_tmp rfl _ _ _) hd14 ?_
  rw [e16]
  exact ⟨rfl, hC14.1⟩

end Go.Proofs.Ytkncaafjkoeijaa.DescCallsW
