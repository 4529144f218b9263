/- The law DescBack: what was encoded as bytes is read back; different ones have different bytes. For every input; no condition. -/
import Derived.Test.YtcenfjfdddponaaDes
import Derived.Test.YtcenfjfdddponaaDesArgs
import Derived.Test.YtcenfjfdddponaaAssert
namespace Go.Proofs.Ytcenfjfdddponaa.DescBackA
open Go.ChangeShapes Go.WideShapes Go.ChangeAt Go.RowKit Le Rw DesPut DesRead DesTab DesRT DesWord DesArgs
set_option linter.unusedVariables false
set_option linter.unusedSimpArgs false

theorem back_read (b : Nat) (a l f x : Int) (w : World) (h : DescIn a l f x) (hr : w.rowIs b 101 16 (u8F (descG a l f x))) :
    Calls Try.prog 37 #[.slice (some ⟨b, 0, none⟩) 16 16] w (Gives w.heap.size w (.tuple #[descV a l f x, .int .i64 0])) := by
  obtain ⟨h1, h2, h3, h4⟩ := f_desc a l f x h
  have := read_is ⟨b, 0, none⟩ 16 (descG a l f x) w (by omega) (descG_lo a l f x) (IsRow.of_rowIs (c := 16) hr (by omega))
  rwa [h1, h2, h3, h4] at this
theorem pback_read (b : Nat) (a l f x : Int) (w : World) (h : DescIn a l f x) (hr : w.rowIs b 101 16 (u8F (descG a l f x))) :
    Calls Try.prog 38 #[.slice (some ⟨b, 0, none⟩) 16 16] w (Gives w.heap.size w (.tuple #[descV a l f x, .int .i64 0])) := by
  obtain ⟨h1, h2, h3, h4⟩ := f_desc a l f x h
  have := pread_is ⟨b, 0, none⟩ 16 (descG a l f x) w (by omega) (descG_lo a l f x) (IsRow.of_rowIs (c := 16) hr (by omega))
  rwa [h1, h2, h3, h4] at this
theorem own_cap {w : World} {base : Nat} {e : TypeId} {size n c : Nat} {A : Option Addr} {xs : List Value} (h : w.ownsRow base e size (.slice A n c) n xs) : n ≤ c := by
  rcases h.2 with ⟨h1, h2⟩ | ⟨g, cap, cur, h1, _, _, h2, _⟩
  · omega
  · injection h1 with _ _ h3; omega
theorem own_slice {w : World} {base : Nat} {e : TypeId} {size n : Nat} {v : Value} {xs : List Value} (h : w.ownsRow base e size v n xs) : ∃ A c, v = .slice A n c := by
  rcases h.2 with ⟨h1, h2⟩ | ⟨g, cap, cur, h1, _⟩
  · exact ⟨_, _, by rw [h1, h2]⟩
  · exact ⟨_, _, h1⟩
theorem byte_lo (d : D4) (n : Nat) : Bytes d.byte n := fun i _ => by unfold D4.byte; exact descG_lo _ _ _ _ _ (Nat.mod_lt _ (by decide))
theorem flat_congr {α β : Type} {f g : α → List β} : ∀ {l : List α}, (∀ x ∈ l, f x = g x) → l.flatMap f = l.flatMap g
  | [], _ => rfl
  | x :: l, h => by rw [List.flatMap_cons, List.flatMap_cons, h x (by simp), flat_congr fun y hy => h y (by simp [hy])]
theorem tab_back (d : D4) (n : Nat) (h : d.In n) : D4.rows (tabD d.byte) n = D4.rows d n := by
  rw [rows_flat, rows_flat]
  unfold DesIter.upto
  refine flat_congr fun i hi => ?_
  obtain ⟨j, hj, rfl⟩ := List.mem_map.1 hi
  have hj' : j < n := List.mem_range.1 hj
  have e : ∀ k, k < 16 → d.byte (16 * j + k) = descG (d.a j) (d.l j) (d.f j) (d.x j) k := fun k hk => by
    unfold D4.byte
    rw [show (16 * j + k) / 16 = j from by omega, show (16 * j + k) % 16 = k from by omega]
  obtain ⟨h1, h2, h3, h4⟩ := f_desc _ _ _ _ (h j hj')
  have e1 : (tabD d.byte).a j = d.a j := (word_congr fun i hi => e _ (by omega)).trans h1
  have e2 : (tabD d.byte).l j = d.l j := (word_congr fun i hi => e _ (by omega)).trans h2
  have e3 : (tabD d.byte).f j = d.f j := (word_congr fun i hi => e _ (by omega)).trans h3
  have e4 : (tabD d.byte).x j = d.x j := (word_congr fun i hi => e _ (by omega)).trans h4
  simp only [id_eq, e1, e2, e3, e4]
theorem row_bytes {w : World} {base g c n : Nat} {d : D4} (h : w.ownsRow base 5 1 (.slice (some ⟨g, 0, none⟩) (16 * n) c) (16 * n) (d.row n)) : IsRow w w.heap.size 1 (some ⟨g, 0, none⟩) (16 * n) (u8F d.byte) :=
  (IsRow.of_own h).congr fun j hj => by
    unfold D4.row
    have hj' : j < 16 * n := by omega
    simp [List.getD_eq_getElem?_getD, hj']
theorem row_descs {w : World} {base c n : Nat} {A : Option Addr} {d : D4} (h : w.ownsRow base 63 4 (.slice A n c) n (D4.rows d n)) : IsRow w w.heap.size 4 A n d.cell :=
  (IsRow.of_own h).congr fun j hj => by
    unfold D4.rows
    simp [List.getD_eq_getElem?_getD, hj]

def sameD (a l f x a' l' f' x' : Int) : Bool := decide (a = a') && decide (l = l') && decide (f = f') && decide (x = x')
section
variable {w V W : World} {L : List (Nat × Nat × Value)} {R : Ending → World → Prop} {y : Value}
theorem asrt_bytes {a l f x : Int} (hC : Lib.Held w V L W) (e : y = descV a l f x) (h : DescIn a l f x) (hR : ∀ v w', (Asrt.As.row 101 16 (u8F (descG a l f x))).φ v w' → Lib.Held w V L w' → Below W.heap.size W w' → R (.returned v) w') :
    Calls Try.prog 51 #[y] W R := by
  subst e
  exact (bytes_any a l f x h W).mono fun e w' ⟨b, he, hr, _, hb⟩ => by subst he; exact hR _ _ ⟨b, rfl, hr⟩ (hC.step hb) hb
theorem asrt_pbytes {a l f x : Int} (hC : Lib.Held w V L W) (e : y = descV a l f x) (h : DescIn a l f x) (hR : ∀ v w', (Asrt.As.row 101 16 (u8F (descG a l f x))).φ v w' → Lib.Held w V L w' → Below W.heap.size W w' → R (.returned v) w') :
    Calls Try.prog 53 #[y] W R := by
  subst e
  exact (pbytes_any a l f x h W).mono fun e w' ⟨b, he, hr, _, hb⟩ => by subst he; exact hR _ _ ⟨b, rfl, hr⟩ (hC.step hb) hb
theorem asrt_gives {P : Program} {f : FuncId} {x v : Value} (hC : Lib.Held w V L W) (e : y = x) (h : Calls P f #[x] W (Gives W.heap.size W v)) (hR : ∀ w', Lib.Held w V L w' → Below W.heap.size W w' → R (.returned v) w') : Calls P f #[y] W R := by
  subst e
  exact h.mono fun e w' ⟨he, hb⟩ => by subst he; exact hR _ (hC.step hb) hb
theorem asrt_gives2 {P : Program} {f : FuncId} {x x2 y2 v : Value} (hC : Lib.Held w V L W) (e : y = x) (e2 : y2 = x2) (h : Calls P f #[x, x2] W (fun e w' => e = .returned v ∧ Below W.heap.size W w')) (hR : ∀ w', Lib.Held w V L w' → Below W.heap.size W w' → R (.returned v) w') : Calls P f #[y, y2] W R := by
  subst e e2
  exact h.mono fun e w' ⟨he, hb⟩ => by subst he; exact hR _ (hC.step hb) hb
theorem asrt_table {A : Option Addr} {n c : Nat} {d : D4} (hC : Lib.Held w V L W) (e : y = .slice A n c) (hr : IsRow W W.heap.size 4 A n d.cell) (hn : n ≤ 300) (hd : d.In n) (hR : ∀ v w', (Asrt.As.len (16 * n)).φ v w' → Lib.Held w V L w' → Below W.heap.size W w' → R (.returned v) w') :
    Calls Try.prog 59 #[y] W R := by
  subst e
  exact (table_any A n c d W (by omega) hd hr).mono fun e w' ⟨g, cap, he, _, hb⟩ => by subst he; exact hR _ _ ⟨_, _, rfl⟩ (hC.step hb) hb
theorem used_back (ui un : Int) (hu : (0 ≤ ui ∧ ui ≤ 4294967295) ∧ 0 ≤ un ∧ un ≤ 4294967295) (W : World) : Calls Try.prog 55 #[.int .u64 (ui + un * 4294967296)] W (Gives W.heap.size W (.agg #[.int .u32 ui, .int .u32 un])) := by
  have := readUsed_any (ui + un * 4294967296) (by omega) (by omega) W
  rwa [show (ui + un * 4294967296) % 4294967296 = ui from by omega, show (ui + un * 4294967296) / 4294967296 = un from by omega] at this
theorem event_back (ui un : Int) (hu : (0 ≤ ui ∧ ui ≤ 65535) ∧ 0 ≤ un ∧ un ≤ 65535) (W : World) : Calls Try.prog 56 #[.int .u64 (ui + un * 65536)] W (Gives W.heap.size W (.agg #[.int .u16 ui, .int .u16 un])) := by
  have := readEvent_any (ui + un * 65536) (by omega) (by omega) W
  rwa [show (ui + un * 65536) % 65536 = ui from by omega, show (ui + un * 65536) / 65536 % 65536 = un from by omega] at this
theorem asrt_str {o : Oper} {a : Act} {s b : Nat} {g : Nat → Int} (hb : a.tmps.getD s undef = .slice (some ⟨b, 0, none⟩) 16 16) (hr : W.rowIs b 101 16 (u8F g)) (hg : Bytes g 16) (hop : o.op = .convert 32 9 (.tmp s)) :
    (execOp a.eval o).run Try.prog W = .ok (.value (.string (strOf g 16))) W := by
  have := run_str (P := Try.prog) 32 9 5 Try.underlying32 Try.underlying5 Try.underlying9 (some ⟨b, 0, none⟩) 16 16 W.heap.size g W hg (IsRow.of_rowIs (c := 16) hr (by omega))
  simp only [execOp, hop, Act.eval, hb, Sem.run_bind, this, Result.andThen_ok, Sem.run_pure]
theorem ite_same (a l f x a' l' f' x' : Int) (W : World) : (if a = a' then if l = l' then if f = f' then if x = x' then Result.ok (Next.value (Value.bool true)) W else Result.ok (Next.value (Value.bool false)) W else Result.ok (Next.value (Value.bool false)) W else Result.ok (Next.value (Value.bool false)) W else Result.ok (Next.value (Value.bool false)) W) = Result.ok (Next.value (Value.bool (sameD a l f x a' l' f' x'))) W := by
  unfold sameD
  by_cases e1 : a = a' <;> by_cases e2 : l = l' <;> by_cases e3 : f = f' <;> by_cases e4 : x = x' <;> simp [e1, e2, e3, e4]
theorem str_list (g : Nat → Int) (n : Nat) : (strOf g n).toList = (List.range n).map fun j => UInt8.ofNat (g j).toNat := by rw [ByteArray.toList_eq]; rfl
theorem str_same {a l f x a' l' f' x' : Int} (h : DescIn a l f x) (h' : DescIn a' l' f' x') : ((strOf (descG a l f x) 16).toList == (strOf (descG a' l' f' x') 16).toList) = sameD a l f x a' l' f' x' := by
  unfold sameD
  by_cases e : a = a' ∧ l = l' ∧ f = f' ∧ x = x'
  · obtain ⟨rfl, rfl, rfl, rfl⟩ := e
    simp
  · have h1 : ((strOf (descG a l f x) 16).toList == (strOf (descG a' l' f' x') 16).toList) = false := by
      simp only [beq_eq_false_iff_ne, ne_eq]
      intro h2
      rw [str_list, str_list] at h2
      exact e (desc_inj h h' (by unfold DesArgs.strOf; rw [h2]))
    rw [h1]
    symm
    simp only [Bool.and_eq_false_iff, decide_eq_false_iff_not]
    by_cases e1 : a = a'
    · by_cases e2 : l = l'
      · by_cases e3 : f = f'
        · exact .inr fun e4 => e ⟨e1, e2, e3, e4⟩
        · exact .inl (.inr e3)
      · exact .inl (.inl (.inr e2))
    · exact .inl (.inl (.inl e1))
end


end Go.Proofs.Ytcenfjfdddponaa.DescBackA
