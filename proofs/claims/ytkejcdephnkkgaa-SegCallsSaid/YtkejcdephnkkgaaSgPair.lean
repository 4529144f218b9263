/- Two memories of one list side by side, whatever the list: what each call that package seg makes answers (GmPair without Load, Store, Regions). -/
import Derived.Test.YtkejcdephnkkgaaMGm1
namespace Go.Proofs.Ytkejcdephnkkgaa.SgPair
open Go.RowKit Rw Le GmFind GmWord GmCheck GmNew GmLoad GmRead GmWrite GmRef GmRefN GmRefM GmRefP GmTwo GmZero GmTwin SgConcat
set_option linter.unusedVariables false
set_option linter.unusedSimpArgs false

def u64in (a : Int) : Prop := 0 ≤ a ∧ a ≤ 18446744073709551615
def ImgP (S : Nat) (g : Nat → Int) (W : World) (e : Ending) (W' : World) : Prop := ∃ (A : Option Addr) (c : Nat), e = .returned (.slice A S c) ∧ IsRow W' W'.heap.size 1 A S (fun j => .int .u8 (g j)) ∧ Below W.heap.size W W'
/-- One block has turned, of those that lie from B to below top. -/
def Turned (B top : Nat) (W W' : World) : Prop := ∃ b, B ≤ b ∧ b < top ∧ W.grownBy W' (some b)
theorem Turned.below {B top : Nat} {W W' : World} (h : Turned B top W W') (hB : B ≤ W.heap.size) : Below B W W' := by
  obtain ⟨b, h1, _, hg⟩ := h
  exact (Below.refl B W).grown hg hB (fun b' e => by cases e; exact h1)
theorem Turned.size {B top : Nat} {W W' : World} (h : Turned B top W W') : W.heap.size ≤ W'.heap.size := by
  obtain ⟨b, _, _, hg⟩ := h
  exact hg.size
theorem Turned.cell {B top : Nat} {W W' : World} (h : Turned B top W W') {q o : Nat} (h1 : top ≤ q) (h2 : q < W.heap.size) : W'.cell? ⟨q, o, none⟩ = W.cell? ⟨q, o, none⟩ := by
  obtain ⟨b, _, hb, hg⟩ := h
  exact cell_kept hg h2 (by omega)
theorem Turned.row {B top : Nat} {W W' : World} (h : Turned B top W W') {s n : Nat} {A : Option Addr} {F : Nat → Value} (hr : IsRow W W.heap.size s A n F) (hA : ∀ ad, A = some ad → top ≤ ad.block) : IsRow W' W'.heap.size s A n F := by
  obtain ⟨b, _, hb, hg⟩ := h
  exact row_kept hr hg (fun ad e => by have := hA ad e; omega)
/-- Read of the program, of bytes that are there: a block of its own. -/
def RdOne (o N : Nat) (g : Nat → Int) (W : World) (x : Ending) (W' : World) : Prop :=
  ∃ b, x = .returned (.tuple #[.slice (some ⟨b, 0, none⟩) N N, .int .i64 0]) ∧ W'.rowIs b 5 N (fun j => .int .u8 (g (o + j))) ∧ Below W.heap.size W W'

structure Pair (P : Nums) (S top : Nat) (T : World → (Nat → Int) → (Nat → Int) → Prop) : Prop where
  below : ∀ {W W' : World} {gp gd : Nat → Int}, T W gp gd → Below W.heap.size W W' → T W' gp gd
  big : ∀ {W : World} {gp gd : Nat → Int}, T W gp gd → P.B ≤ W.heap.size
  lo : ∀ {W : World} {gp gd : Nat → Int}, T W gp gd → ∀ j, 0 ≤ gp j ∧ gp j ≤ 255
  pread : ∀ (a n : Int) (N : Nat) (G : Nat → Int) (e : Int) (W : World) (gp gd : Nat → Int), T W gp gd → u64in a → n ≤ 9223372036854775807 → ReadIs P gp a n N G e → Calls Try.prog 46 #[.pointer (some ⟨P.m, 0, none⟩), .int .u64 a, .int .i64 n] W (RdP N G e W)
  dread : ∀ (a n : Int) (N : Nat) (G : Nat → Int) (e : Int) (W : World) (gp gd : Nat → Int), T W gp gd → u64in a → n ≤ 9223372036854775807 → ReadIs P gd a n N G e → Calls Try.prog 55 #[.pointer (some ⟨P.mm, 0, none⟩), .int .u64 a, .int .i64 n] W (RdP N G e W)
  pwrite : ∀ (a : Int) (A : Option Addr) (N c : Nat) (gb g' : Nat → Int) (e : Int) (W : World) (gp gd : Nat → Int), T W gp gd → u64in a → N ≤ 100000 → (∀ j, 0 ≤ gb j ∧ gb j ≤ 255) → IsRow W W.heap.size 1 A N (fun j => .int .u8 (gb j)) → WriteIs P gp a N gb g' e →
    Calls Try.prog 52 #[.pointer (some ⟨P.m, 0, none⟩), .int .u64 a, .slice A N c] W fun x W' => x = .returned (.int .i64 e) ∧ T W' g' gd ∧ Turned P.B top W W'
  dwrite : ∀ (a : Int) (A : Option Addr) (N c : Nat) (gb g' : Nat → Int) (e : Int) (W : World) (gp gd : Nat → Int), T W gp gd → u64in a → N ≤ 100000 → (∀ j, 0 ≤ gb j ∧ gb j ≤ 255) → IsRow W W.heap.size 1 A N (fun j => .int .u8 (gb j)) → WriteIs P gd a N gb g' e →
    Calls Try.prog 53 #[.pointer (some ⟨P.mm, 0, none⟩), .int .u64 a, .slice A N c] W fun x W' => x = .returned (.int .i64 e) ∧ T W' gp g' ∧ Turned P.B top W W'
  phas : ∀ (a n : Int) (W : World) (gp gd : Nat → Int), T W gp gd → u64in a → u64in n → Calls Try.prog 47 #[.pointer (some ⟨P.m, 0, none⟩), .int .u64 a, .int .u64 n] W (GmWord.Gives W.heap.size W (.bool (place P.r P.k a n).isSome))
  dhas : ∀ (a n : Int) (W : World) (gp gd : Nat → Int), T W gp gd → u64in a → u64in n → Calls Try.prog 48 #[.pointer (some ⟨P.mm, 0, none⟩), .int .u64 a, .int .u64 n] W (GmWord.Gives W.heap.size W (.bool (place P.r P.k a n).isSome))
  pread1 : ∀ (a : Int) (N o : Nat) (W : World) (gp gd : Nat → Int), T W gp gd → u64in a → 1 ≤ N → (N : Int) ≤ 9223372036854775807 → place P.r P.k a (N : Int) = some o → Calls Try.prog 46 #[.pointer (some ⟨P.m, 0, none⟩), .int .u64 a, .int .i64 N] W (RdOne o N gp W)
  pimage : ∀ (W : World) (gp gd : Nat → Int), T W gp gd → Calls Try.prog 30 #[.pointer (some ⟨P.m, 0, none⟩)] W (ImgP S gp W)
  dimage : ∀ (W : World) (gp gd : Nat → Int), T W gp gd → Calls Try.prog 31 #[.pointer (some ⟨P.mm, 0, none⟩)] W (ImgP S gd W)

theorem image_d {mm k c : Nat} {A : Option Addr} {r : Rg} {x : Value} {ps : List (Nat × Nat)} {g : Nat → Int} (S : Nat) (w : World) (h : RM w mm k c A (stR r) x ps g) (hS : sum r k = S) (hS1 : S ≤ 1048576) :
    Calls Try.prog 31 #[.pointer (some ⟨mm, 0, none⟩)] w (ImgP S g w) :=
  (r_image S w h hS hS1).mono fun e w' ⟨A', c', he, ho, hb⟩ => ⟨A', c', he, (IsRow.of_own ho).congr fun j hj => by
    have hj' : j < S := by omega
    simp [u8s, bytesAt, List.getD_eq_getElem?_getD, hj'], hb⟩
theorem turned_of {P : Nums} (o : Ok P) {top : Nat} (ht : P.b3 < top) (hp : ∀ p ∈ P.ps, p.1 < top) {W W' : World} (h : Wr P W W') : Turned P.B top W W' := by
  obtain ⟨b, hb, hg⟩ := h
  rcases hb with rfl | ⟨p, hpp, rfl⟩
  · exact ⟨_, o.B0, ht, hg⟩
  · exact ⟨_, by have := o.p0 p hpp; have := o.B1; omega, hp p hpp, hg⟩
theorem pair_two {P : Nums} (o : Ok P) (r : Rg) (hr : P.r = stR r) (hS : sum r P.k = P.n3) {top : Nat} (ht : P.b3 < top) (hp : ∀ p ∈ P.ps, p.1 < top) : Pair P P.n3 top (Two P) where
  lo := fun h => h.bp
  below := Two.below
  big := fun h => by have := o.B0; have := h.row.lt; omega
  pread := fun a n N G e W gp gd h ha hn hl => p_read o a n N G e W h ha hn hl
  dread := fun a n N G e W gp gd h ha hn hl => d_read o a n N G e W h ha hn hl
  pwrite := fun a A N c gb g' e W gp gd h ha hN hb hs hl => (p_write o a A N c gb g' e W h ha hN hb hs hl).mono fun x W' ⟨he, hT, hw⟩ => ⟨he, hT, turned_of o ht hp hw⟩
  dwrite := fun a A N c gb g' e W gp gd h ha hN hb hs hl => (d_write o a A N c gb g' e W h ha hN hb hs hl).mono fun x W' ⟨he, hT, hw⟩ => ⟨he, hT, turned_of o ht hp hw⟩
  phas := fun a n W gp gd h ha hn => p_has o a n W h ha hn
  dhas := fun a n W gp gd h ha hn => d_has a n W h ha hn
  pread1 := fun a N q W gp gd h ha h1 hn hp => by
    have := read_yes P.k P.m P.g1 P.b3 a N P.r gp W (by have := o.k16; omega) o.inr o.fits o.n3 (by have := o.n3m; omega) h.mem (h.by_ o) h.row.lt ha.1 ha.2 (by omega) hn hp
    rw [Int.toNat_natCast] at this
    exact this.mono fun x W' ⟨b, he, _, hrow, hb⟩ => ⟨b, he, hrow, hb⟩
  pimage := fun W gp gd h => (image_any P.m P.n3 P.c3 _ gp W (by have := o.n3m; omega) h.mem.self h.mem.bys (IsRow.of_rowIs (c := P.n3) h.row (by have := o.n3; omega))).mono fun e W' ⟨b, he, hbb, hrow, hb⟩ => ⟨_, _, he, IsRow.of_rowIs (c := P.n3) hrow (by omega), hb⟩
  dimage := fun W gp gd h => image_d P.n3 W (hr ▸ h.rm) hS o.n3m

/-- Without regions. -/
structure Two0 (P : Nums) (W : World) (gp gd : Nat → Int) : Prop where
  mem : Mem0 W P.m P.g1 P.r
  rm : RM W P.mm 0 P.c P.A P.r P.x P.ps gd
  big : P.B ≤ W.heap.size
  lo : ∀ j, 0 ≤ gp j ∧ gp j ≤ 255
theorem no_place (r : Rg) (a n : Int) : place r 0 a n = none := by
  have := place_zero r a n
  cases h : place r 0 a n
  · rfl
  · rw [h] at this; cases this
theorem not_some {r : Rg} {a n : Int} {q : Nat} (h : place r 0 a n = some q) : False := by rw [no_place] at h; cases h
theorem pair_zero {P : Nums} (r : Rg) (hr : P.r = stR r) (hk : P.k = 0) {top : Nat} (ht : P.B < top) : Pair P 0 top (Two0 P) where
  lo := fun h => h.lo
  below := fun h hb => ⟨h.mem.below hb, h.rm.below hb, Nat.le_trans h.big hb.size, h.lo⟩
  big := fun h => h.big
  pread := fun a n N G e W gp gd h ha hn hl => by
    unfold ReadIs at hl
    rw [hk] at hl
    rcases hl with ⟨h1, rfl, rfl⟩ | ⟨rfl, rfl, rfl⟩ | ⟨h1, hp, rfl, rfl⟩ | ⟨h1, q, hp, _⟩
    · exact (read_neg P.m a n W h.mem.self h1).mono fun x W' ⟨he, hb⟩ => ⟨_, _, he, none_row, hb⟩
    · exact (read_zero P.m a W h.mem.self).mono fun x W' ⟨he, hb⟩ => ⟨_, _, he, none_row, hb⟩
    · exact (read0 P.m P.g1 a n P.r W h.mem h1 hn).mono fun x W' ⟨he, hb⟩ => ⟨_, _, he, none_row, hb⟩
    · exact (not_some hp).elim
  dread := fun a n N G e W gp gd h ha hn hl => by
    unfold ReadIs at hl
    rw [hk] at hl
    rcases hl with ⟨h1, rfl, rfl⟩ | ⟨rfl, rfl, rfl⟩ | ⟨h1, hp, rfl, rfl⟩ | ⟨h1, q, hp, _⟩
    · exact (r_read_neg _ a n W h1).mono fun x W' ⟨he, hb⟩ => ⟨_, _, he, none_row, hb⟩
    · exact (r_read_zero _ a W).mono fun x W' ⟨he, hb⟩ => ⟨_, _, he, none_row, hb⟩
    · exact (r_read_no a n W h.rm ha (by omega) hp).mono fun x W' ⟨he, hb⟩ => ⟨_, _, he, none_row, hb⟩
    · exact (not_some hp).elim
  pwrite := fun a A N c gb g' e W gp gd h ha hN hb hs hl => by
    unfold WriteIs at hl
    rw [hk] at hl
    rcases hl with ⟨rfl, rfl, rfl⟩ | ⟨hn, hp, rfl, rfl⟩ | ⟨hn, q, hp, _⟩
    · exact (write_zero P.m c A a W h.mem.self).mono fun x W' ⟨he, hb⟩ => ⟨he, ⟨h.mem.below hb, h.rm.below hb, Nat.le_trans h.big hb.size, h.lo⟩, ⟨P.B, Nat.le_refl _, ht, only_of_below hb _⟩⟩
    · exact (write0 P.m P.g1 N c A a P.r W h.mem hn (by omega)).mono fun x W' ⟨he, hb⟩ => ⟨he, ⟨h.mem.below hb, h.rm.below hb, Nat.le_trans h.big hb.size, h.lo⟩, ⟨P.B, Nat.le_refl _, ht, only_of_below hb _⟩⟩
    · exact (not_some hp).elim
  dwrite := fun a A N c gb g' e W gp gd h ha hN hb hs hl => by
    unfold WriteIs at hl
    rw [hk] at hl
    rcases hl with ⟨rfl, rfl, rfl⟩ | ⟨hn, hp, rfl, rfl⟩ | ⟨hn, q, hp, _⟩
    · exact (r_write_zero _ a A c W).mono fun x W' ⟨he, hb⟩ => ⟨he, ⟨h.mem.below hb, h.rm.below hb, Nat.le_trans h.big hb.size, h.lo⟩, ⟨P.B, Nat.le_refl _, ht, only_of_below hb _⟩⟩
    · exact (r_write_no a N c A W h.rm ha (by omega) hp).mono fun x W' ⟨he, hb⟩ => ⟨he, ⟨h.mem.below hb, h.rm.below hb, Nat.le_trans h.big hb.size, h.lo⟩, ⟨P.B, Nat.le_refl _, ht, only_of_below hb _⟩⟩
    · exact (not_some hp).elim
  phas := fun a n W gp gd h ha hn => by
    rw [hk, no_place]
    exact GmNew0.has_none P.m P.g1 a n P.r W h.mem
  dhas := fun a n W gp gd h ha hn => by
    rw [hk]
    exact h.rm.has ha hn
  pread1 := fun a N q W gp gd h ha h1 hn hp => by
    rw [hk] at hp
    exact (not_some hp).elim
  pimage := fun W gp gd h => (image_any P.m 0 0 none gp W (by decide) h.mem.self h.mem.bys none_row).mono fun e W' ⟨b, he, hbb, hrow, hb⟩ => ⟨_, _, he, none_row, hb⟩
  dimage := fun W gp gd h => image_d 0 W (hr ▸ h.rm) rfl (by decide)

/-- New ones. -/
def PNew (W : World) (m k : Nat) (r : Rg) : Prop :=
  (0 < k ∧ ∃ (g1 b3 c2 n3 c3 : Nat) (A2 : Option Addr), MemAt W m k g1 A2 (some ⟨b3, 0, none⟩) k c2 n3 c3 (stR r) ∧ (n3 : Int) = sum r k ∧ n3 ≤ c3 ∧ W.rowIs b3 5 c3 (fun _ => .int .u8 0) ∧ g1 < m ∧ m < b3 ∧ (∀ a, A2 = some a → m < a.block ∧ a.block < b3)) ∨
  (k = 0 ∧ ∃ g1, Mem0 W m g1 (stR r))
def QNew (w W : World) (mm k : Nat) (r : Rg) : Prop := ∃ (c2 : Nat) (A2 : Option Addr) (x : Value) (ps : List (Nat × Nat)), MM W mm (.slice A2 k c2) x ∧ Ps W mm mm x ps ∧
      ps.map (·.2) = lens k r ∧ w.heap.size ≤ mm ∧ W.ownsRow w.heap.size 75 2 (.slice A2 k c2) k (rowR k r) ∧ (∀ b, (Value.slice A2 k c2).ownBlock = some b → b < mm) ∧ Below w.heap.size w W
theorem p_new (A : Option Addr) (k c : Nat) (r : Rg) (w : World) (hr : Raw r k) (hg : GmTwin.Good k r) (h : Lst w w.heap.size A k r) :
    Calls Try.prog 9 #[.slice A k c] w fun e w' => ∃ m, e = .returned (.tuple #[.pointer (some ⟨m, 0, none⟩), .int .i64 0]) ∧ PNew w' m k r ∧ w.heap.size ≤ m ∧ Below w.heap.size w w' := by
  by_cases h0 : 0 < k
  · refine (new_ok A k c r w h0 hg.1 hr hg.2 h).mono ?_
    rintro e w' ⟨m, g1, b3, c2, n3, c3, A2, he, hM, h3, hc, hrow, q0, _, q1, q2, q3, hb⟩
    exact ⟨m, he, .inl ⟨h0, g1, b3, c2, n3, c3, A2, hM, h3, hc, hrow, q1, q2, q3⟩, q0, hb⟩
  · obtain rfl : k = 0 := by omega
    refine (GmNew0.new_none A c (stR r) w).mono ?_
    rintro e w' ⟨m, g1, he, hM, q0, _, _, hb⟩
    exact ⟨m, he, .inr ⟨rfl, g1, hM⟩, q0, hb⟩
theorem q_new (A : Option Addr) (k c : Nat) (r : Rg) (w : World) (hr : Raw r k) (hg : GmTwin.Good k r) (hA : A = none → c = 0) (h : Lst w w.heap.size A k r) :
    Calls Try.prog 11 #[.slice A k c] w fun e w' => ∃ mm, e = .returned (.tuple #[.pointer (some ⟨mm, 0, none⟩), .int .i64 0]) ∧ QNew w w' mm k r := by
  by_cases h0 : 0 < k
  · refine (r_new_ok A k c r w h0 hg.1 hr hg.2 h).mono ?_
    rintro e w' ⟨m, c2, A2, x, ps, he, hM, hP, hl, hm, ho, hbk, hb⟩
    exact ⟨m, he, c2, A2, x, ps, hM, hP, hl, hm, ho, hbk, hb⟩
  · obtain rfl : k = 0 := by omega
    refine (r_new_none A c r w hA).mono ?_
    rintro e w' ⟨m, c2, A2, x, ps, he, hM, hP, hl, hm, ho, hbk, hb⟩
    exact ⟨m, he, c2, A2, x, ps, hM, hP, hl, hm, ho, hbk, hb⟩
theorem pair_new {w1 w2 W2 : World} {B m mm k : Nat} {r : Rg} (hr : Raw r k) (hg : GmTwin.Good k r) (hp : PNew w1 m k r) (hB : B ≤ m) (hb : Below w1.heap.size w1 w2) (hq : QNew w2 W2 mm k r) :
    ∃ (P : Nums) (S : Nat) (T : World → (Nat → Int) → (Nat → Int) → Prop), Pair P S W2.heap.size T ∧ P.B = B ∧ P.m = m ∧ P.mm = mm ∧ P.k = k ∧ P.r = stR r ∧ S ≤ 1048576 ∧ T W2 (fun _ => 0) (fun _ => 0) := by
  obtain ⟨c2, A2, x, ps, hM, hP, hl, hm, ho, hbk, hb2⟩ := hq
  rcases hp with ⟨h0, g1, b3, cc2, n3, c3, AA, hMem, h3, hc, hrow, q1, q2, q3⟩ | ⟨rfl, g1, hMem⟩
  · obtain ⟨P, ⟨e1, e2, e3, e4, e5, e6⟩, hok, hT⟩ := two_new (w1 := w1) hB hg.1 hr hg.2 hMem h3 hc hrow q1 q2 q3 hb hM hP hl hm ho hbk hb2
    exact ⟨P, P.n3, Two P, pair_two hok r e5 (by rw [e4, e6, h3]) hT.row.lt (fun p hp => by
      obtain ⟨i, hi, e⟩ := List.mem_iff_getElem.1 hp
      exact (hT.rm.row i p (by rw [← e]; exact List.getElem?_eq_getElem hi)).lt), e1, e2, e3, e4, e5, hok.n3m, hT⟩
  · have hRM : RM W2 mm 0 c2 A2 (stR r) x ps (fun _ => 0) := RM.of_new hg.1 hr hg.2 hM hP hl ho hbk
    refine ⟨⟨B, m, g1, 0, 0, 0, 0, 0, mm, c2, w2.heap.size, 0, none, A2, x, ps, stR r⟩, 0, _, pair_zero r rfl rfl ?_, rfl, rfl, rfl, rfl, rfl, by decide, ⟨(hMem.below hb).below hb2, hRM, ?_, fun _ => ⟨Int.le_refl 0, by show (0 : Int) ≤ 255; decide⟩⟩⟩
    all_goals
      have h1 := hMem.lt
      have h2 := hb.size
      have h3 := hb2.size
    · show B < W2.heap.size
      omega
    · show B ≤ W2.heap.size
      omega

end Go.Proofs.Ytkejcdephnkkgaa.SgPair
