/- The law DescCalls: what its steps do, the program's and the document's in one form. -/
import Derived.Test.YtkncaafjkoeijaaDes
import Derived.Test.YtkncaafjkoeijaaDescFieldsA
import Derived.Test.YtkncaafjkoeijaaDesR3
import Derived.Test.YtkncaafjkoeijaaAppendOpt
namespace Go.Proofs.Ytkncaafjkoeijaa.DescCallsA
open Go.ChangeShapes Go.WideShapes Go.ChangeAt Go.RowKit Le Rw DesPut DesRead DesTab DesRT DesWord DesArgs DesR1 DesR2 DesR3 Des
open Go.Proofs.Ytkncaafjkoeijaa.Own (own_slice own_block own_ne)
set_option linter.unusedVariables false
set_option linter.unusedSimpArgs false

theorem own_cap {w : World} {base : Nat} {e : TypeId} {size n c : Nat} {A : Option Addr} {xs : List Value} (h : w.ownsRow base e size (.slice A n c) n xs) : n ≤ c := by
  rcases h.2 with ⟨h1, h2⟩ | ⟨g, cap, cur, h1, _, _, h2, _⟩
  · omega
  · injection h1 with _ _ h3; omega
/-- What bytes are read as. -/
def RdIs (g : Nat → Int) (n : Nat) (a l f x e : Int) : Prop := (n = 16 ∧ a = fA g ∧ l = fL g ∧ f = fF g ∧ x = fX g ∧ e = 0) ∨ (n ≠ 16 ∧ a = 0 ∧ l = 0 ∧ f = 0 ∧ x = 0 ∧ e = 4)
theorem rd_some (g : Nat → Int) (n : Nat) : ∃ a l f x e, RdIs g n a l f x e := by
  by_cases h : n = 16
  · exact ⟨_, _, _, _, _, .inl ⟨h, rfl, rfl, rfl, rfl, rfl⟩⟩
  · exact ⟨_, _, _, _, _, .inr ⟨h, rfl, rfl, rfl, rfl, rfl⟩⟩
theorem read_rd (A : Option Addr) (n c : Nat) (g : Nat → Int) (a l f x e : Int) (w : World) (h : RdIs g n a l f x e) (hc : n ≤ c) (hg : Bytes g n) (hr : IsRow w w.heap.size 1 A n (u8F g)) :
    Calls Try.prog 35 #[.slice A n c] w (Gives w.heap.size w (.tuple #[descV a l f x, .int .i64 e])) := by
  rcases h with ⟨rfl, rfl, rfl, rfl, rfl, rfl⟩ | ⟨h, rfl, rfl, rfl, rfl, rfl⟩
  · obtain ⟨ad, rfl, _⟩ := hr (by omega)
    exact read_is ad c g w hc hg hr
  · exact read_no A n c w h
theorem pread_rd (A : Option Addr) (n c : Nat) (g : Nat → Int) (a l f x e : Int) (w : World) (h : RdIs g n a l f x e) (hc : n ≤ c) (hg : Bytes g n) (hr : IsRow w w.heap.size 1 A n (u8F g)) :
    Calls Try.prog 37 #[.slice A n c] w (Gives w.heap.size w (.tuple #[descV a l f x, .int .i64 e])) := by
  rcases h with ⟨rfl, rfl, rfl, rfl, rfl, rfl⟩ | ⟨h, rfl, rfl, rfl, rfl, rfl⟩
  · obtain ⟨ad, rfl, _⟩ := hr (by omega)
    exact pread_is ad c g w hc hg hr
  · exact pread_no A n c w h
theorem r_read_rd (A : Option Addr) (n c : Nat) (g : Nat → Int) (a l f x e : Int) (w : World) (h : RdIs g n a l f x e) (hg : Bytes g n) (hr : IsRow w w.heap.size 1 A n (u8F g)) :
    Calls Try.prog 36 #[.slice A n c] w (Gives w.heap.size w (.tuple #[descV a l f x, .int .i64 e])) := by
  rcases h with ⟨rfl, rfl, rfl, rfl, rfl, rfl⟩ | ⟨h, rfl, rfl, rfl, rfl, rfl⟩
  · obtain ⟨ad, rfl, _⟩ := hr (by omega)
    exact r_read_is ad c g w hg hr
  · exact r_read_no A n c w h
theorem r_pread_rd (A : Option Addr) (n c : Nat) (g : Nat → Int) (a l f x e : Int) (w : World) (h : RdIs g n a l f x e) (hg : Bytes g n) (hr : IsRow w w.heap.size 1 A n (u8F g)) :
    Calls Try.prog 38 #[.slice A n c] w (Gives w.heap.size w (.tuple #[descV a l f x, .int .i64 e])) := by
  rcases h with ⟨rfl, rfl, rfl, rfl, rfl, rfl⟩ | ⟨h, rfl, rfl, rfl, rfl, rfl⟩
  · obtain ⟨ad, rfl, _⟩ := hr (by omega)
    exact r_pread_is ad c g w hg hr
  · exact r_pread_no A n c w h

/-- How many descriptors a table of so many bytes has, and the error. -/
def TbIs (n N : Nat) (e : Int) : Prop := (n = 16 * N ∧ e = 0) ∨ (n % 16 ≠ 0 ∧ N = 0 ∧ e = 4)
theorem tb_some (n : Nat) : ∃ N e, TbIs n N e ∧ N ≤ n := by
  by_cases h : n % 16 = 0
  · exact ⟨n / 16, _, .inl ⟨by omega, rfl⟩, by omega⟩
  · exact ⟨_, _, .inr ⟨h, rfl, rfl⟩, by omega⟩
def TabP (g : Nat → Int) (N : Nat) (e : Int) (w : World) (x : Ending) (w' : World) : Prop :=
  ∃ (A' : Option Addr) (c' : Nat), x = .returned (.tuple #[.slice A' N c', .int .i64 e]) ∧ IsRow w' w'.heap.size 4 A' N (tabD g).cell ∧ Below w.heap.size w w'
theorem row_tab {w : World} {base c n : Nat} {A : Option Addr} {d : D4} (h : w.ownsRow base 62 4 (.slice A n c) n (D4.rows d n)) : IsRow w w.heap.size 4 A n d.cell :=
  (IsRow.of_own h).congr fun j hj => by
    unfold D4.rows
    simp [List.getD_eq_getElem?_getD, hj]
theorem table_tb (A : Option Addr) (n c N : Nat) (e : Int) (g : Nat → Int) (w : World) (h : TbIs n N e) (hn : n ≤ 5000) (hc : n ≤ c) (hg : Bytes g n) (hr : IsRow w w.heap.size 1 A n (u8F g)) :
    Calls Try.prog 39 #[.slice A n c] w (TabP g N e w) := by
  rcases h with ⟨rfl, rfl⟩ | ⟨h, rfl, rfl⟩
  · refine (rtable_any A N c g w (by omega) hc hg hr).mono ?_
    rintro x w' ⟨v, rfl, ho, hb⟩
    obtain ⟨A', c', rfl⟩ := own_slice ho
    exact ⟨A', c', rfl, row_tab ho, hb⟩
  · refine (rtable_bad A n c w h (by omega)).mono ?_
    rintro x w' ⟨rfl, rfl⟩
    exact ⟨none, 0, rfl, IsRow.none_, Below.refl _ _⟩
theorem r_table_tb (A : Option Addr) (n c N : Nat) (e : Int) (g : Nat → Int) (w : World) (h : TbIs n N e) (hn : n ≤ 5000) (hc : n ≤ c) (hc2 : c ≤ maxLen) (hg : Bytes g n) (hr : IsRow w w.heap.size 1 A n (u8F g)) :
    Calls Try.prog 40 #[.slice A n c] w (TabP g N e w) := by
  rcases h with ⟨rfl, rfl⟩ | ⟨h, rfl, rfl⟩
  · refine (r_rtable A N c g w (by omega) hc hc2 hg hr).mono ?_
    rintro x w' ⟨A', c', rfl, ho, hb⟩
    exact ⟨A', c', rfl, row_tab ho, hb⟩
  · refine (r_rtable_bad A n c w h (by omega)).mono ?_
    rintro x w' ⟨rfl, hb⟩
    exact ⟨none, 0, rfl, IsRow.none_, hb⟩

/-- A copy of bytes. -/
def OwnP (g : Nat → Int) (n : Nat) (w : World) (x : Ending) (w' : World) : Prop :=
  ∃ (A' : Option Addr) (c' : Nat), x = .returned (.slice A' n c') ∧ n ≤ c' ∧ IsRow w' w'.heap.size 1 A' n (u8F g) ∧ Below w.heap.size w w'
set_option maxRecDepth 100000 in
set_option maxHeartbeats 4000000 in
theorem own_any (A : Option Addr) (n c : Nat) (g : Nat → Int) (w : World) (hn : n ≤ 1000000000) (h : IsRow w w.heap.size 1 A n (u8F g)) (hA : A = none → n = 0 ∧ c = 0) :
    Calls Try.prog 25 #[.slice A n c] w (OwnP g n w) := by
  unfold OwnP
  obtain ⟨i0, hi, hz0, hz1, hz2⟩ := info_parts u8info
  have HI0 := Lib.hid hi
  have HI1 := Lib.hid hz0
  have HI2 := Lib.hid hz1
  have HI3 := Lib.hid hz2
  have HO := Lib.hid (World.ownsRow_made (e := 5) (size := 1) w #[] 0 (Nat.le_refl _) (by unfold maxLen; omega) rfl)
  have HN := Lib.hid (show ∀ ad, A = some ad → ∀ j u, ((List.range n).map (u8F g))[j]? = some u → (w.alloc (.cells #[] 5)).cell? (ad.add j) = some u from by
    intro ad e j u hu
    have hj : j < n := by have := (List.getElem?_eq_some_iff.1 hu).1; simpa using this
    obtain ⟨ad', e', hlt, hc⟩ := h (by omega)
    rw [e] at e'
    cases e'
    rw [World.cell?_alloc_lt _ _ _ (by rw [block_of_add]; exact hlt), hc j (by omega), ← hu]
    simp [hj])
  have HL := Lib.hid (show ((List.range n).map (u8F g)).length = n * 1 from by simp)
  have HA := Lib.hid hA
  have H1 := Lib.hid (show ∀ u ∈ (List.range n).map (u8F g), u.oneCell' = true from by simp [u8F, Value.oneCell'])
  clear hi hz0 hz1 hz2 h hA
  go_enter Try.func25, Try.ntmps25
  go_wp2_with (at_builtin; refine wpList_append_opt rfl _ _ 37 rfl w.heap.size 5 i0 (.int .u8 0) 1 1 Try.underlying37 HI0.out HI1.out HI2.out HI3.out rfl (by decide) (.slice (some ⟨w.heap.size, 0, none⟩) 0 0) 0 [] rfl HO.out A n c ((List.range n).map (u8F g)) rfl HA.out HL.out HN.out H1.out (by unfold maxLen; omega) (by omega) (by rw [World.size_alloc]; omega) ?_)
  intro v' W hown' hg'
  have hown2 : W.ownsRow w.heap.size 5 1 v' n ((List.range n).map (u8F g)) := by simpa using hown'
  obtain ⟨A', c', rfl⟩ := own_slice hown2
  have hcap := own_cap hown2
  have hb : Below w.heap.size w W := ((Below.refl w.heap.size w).alloc (Nat.le_refl _) _).grown hg' (by rw [World.size_alloc]; omega) (fun b e => by cases e; exact Nat.le_refl _)
  have hrow : IsRow W W.heap.size 1 A' n (u8F g) := (IsRow.of_own hown2).congr fun j hj => by
    have hj' : j < n := by omega
    simp [List.getD_eq_getElem?_getD, hj']
  have HH := Lib.hid (And.intro hcap (And.intro hrow hb))
  clear hown' hg' hown2 hb hrow hcap
  go_wp2_with fail
  go_ret
  exact ⟨A', c', rfl, HH.out.1, HH.out.2.1, HH.out.2.2⟩

section
variable {w V W : World} {L : List (Nat × Nat × Value)} {R : Ending → World → Prop} {y y1 y2 y3 : Value}
theorem row_own {B c n : Nat} {A : Option Addr} {g : Nat → Int} (h : W.ownsRow B 5 1 (.slice A n c) n ((List.range n).map (u8F g))) : IsRow W W.heap.size 1 A n (u8F g) :=
  (IsRow.of_own h).congr fun j hj => by
    have hj' : j < n := by omega
    simp [List.getD_eq_getElem?_getD, hj']
theorem asrt_b {a l f x : Int} (hC : Lib.Held w V L W) (e : y = descV a l f x) (h : DescIn a l f x) (hR : ∀ v w', (Asrt.As.cut 1 16 (u8F (descG a l f x))).φ v w' → Lib.Held w V L w' → Below W.heap.size W w' → R (.returned v) w') : Calls Try.prog 44 #[y] W R := by
  subst e
  exact (bytes_any a l f x h W).mono fun e w' ⟨b, he, hr, _, hb⟩ => by subst he; exact hR _ _ ⟨_, _, rfl, IsRow.of_rowIs (c := 16) hr (by omega)⟩ (hC.step hb) hb
theorem asrt_pb {a l f x : Int} (hC : Lib.Held w V L W) (e : y = descV a l f x) (h : DescIn a l f x) (hR : ∀ v w', (Asrt.As.cut 1 16 (u8F (descG a l f x))).φ v w' → Lib.Held w V L w' → Below W.heap.size W w' → R (.returned v) w') : Calls Try.prog 46 #[y] W R := by
  subst e
  exact (pbytes_any a l f x h W).mono fun e w' ⟨b, he, hr, _, hb⟩ => by subst he; exact hR _ _ ⟨_, _, rfl, IsRow.of_rowIs (c := 16) hr (by omega)⟩ (hC.step hb) hb
theorem asrt_rb {a l f x : Int} (hC : Lib.Held w V L W) (e : y = descV a l f x) (h : DescIn a l f x) (hR : ∀ v w', (Asrt.As.cut 1 16 (u8F (descG a l f x))).φ v w' → Lib.Held w V L w' → Below W.heap.size W w' → R (.returned v) w') : Calls Try.prog 45 #[y] W R := by
  subst e
  exact (r_bytes a l f x h W).mono fun e w' ⟨v, he, ho, hb⟩ => by
    subst he
    obtain ⟨A', c', rfl⟩ := own_slice ho
    exact hR _ _ ⟨_, _, rfl, row_own ho⟩ (hC.step hb) hb
theorem asrt_rpb {a l f x : Int} (hC : Lib.Held w V L W) (e : y = descV a l f x) (h : DescIn a l f x) (hR : ∀ v w', (Asrt.As.cut 1 16 (u8F (descG a l f x))).φ v w' → Lib.Held w V L w' → Below W.heap.size W w' → R (.returned v) w') : Calls Try.prog 47 #[y] W R := by
  subst e
  exact (r_pbytes a l f x h W).mono fun e w' ⟨v, he, ho, hb⟩ => by
    subst he
    obtain ⟨A', c', rfl⟩ := own_slice ho
    exact hR _ _ ⟨_, _, rfl, row_own ho⟩ (hC.step hb) hb
theorem asrt_rtab {A : Option Addr} {m c : Nat} {D : D4} (hC : Lib.Held w V L W) (e : y = .slice A m c) (hr : IsRow W W.heap.size 4 A m D.cell) (hm : m ≤ 300) (hd : D.In m)
    (hR : ∀ v w', (Asrt.As.cut 1 (16 * m) (u8F D.byte)).φ v w' → Lib.Held w V L w' → Below W.heap.size W w' → R (.returned v) w') : Calls Try.prog 55 #[y] W R := by
  subst e
  refine (r_table A m c D W (by omega) hd hr).mono ?_
  rintro e w' ⟨A', c', rfl, ho, hb⟩
  refine hR _ _ ⟨_, _, rfl, ?_⟩ (hC.step hb) hb
  refine (IsRow.of_own ho).congr fun j hj => ?_
  unfold D4.row
  have hj' : j < 16 * m := by omega
  simp [List.getD_eq_getElem?_getD, hj']
theorem asrt_g {P : Program} {f : FuncId} {x v : Value} (hC : Lib.Held w V L W) (e : y = x) (h : Calls P f #[x] W (Gives W.heap.size W v)) (hR : ∀ w', Lib.Held w V L w' → Below W.heap.size W w' → R (.returned v) w') : Calls P f #[y] W R := by
  subst e
  exact h.mono fun e w' ⟨he, hb⟩ => by subst he; exact hR _ (hC.step hb) hb
theorem asrt_q2 {P : Program} {f : FuncId} {x1 x2 v : Value} (hC : Lib.Held w V L W) (e1 : y1 = x1) (e2 : y2 = x2) (h : Calls P f #[x1, x2] W (fun e w' => e = .returned v ∧ W = w')) (hR : ∀ w', Lib.Held w V L w' → Below W.heap.size W w' → R (.returned v) w') : Calls P f #[y1, y2] W R := by
  subst e1 e2
  exact h.mono fun e w' ⟨he, hb⟩ => by subst he hb; exact hR _ hC (Below.refl _ _)
theorem asrt_q3 {P : Program} {f : FuncId} {x1 x2 x3 v : Value} (hC : Lib.Held w V L W) (e1 : y1 = x1) (e2 : y2 = x2) (e3 : y3 = x3) (h : Calls P f #[x1, x2, x3] W (fun e w' => e = .returned v ∧ W = w')) (hR : ∀ w', Lib.Held w V L w' → Below W.heap.size W w' → R (.returned v) w') : Calls P f #[y1, y2, y3] W R := by
  subst e1 e2 e3
  exact h.mono fun e w' ⟨he, hb⟩ => by subst he hb; exact hR _ hC (Below.refl _ _)
theorem d_lo (d : D4) (m : Nat) : Bytes d.byte m := fun i _ => by unfold D4.byte; exact descG_lo _ _ _ _ _ (Nat.mod_lt _ (by decide))
end

end Go.Proofs.Ytkncaafjkoeijaa.DescCallsA
