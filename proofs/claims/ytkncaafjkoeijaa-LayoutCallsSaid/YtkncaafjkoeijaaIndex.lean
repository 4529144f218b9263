
/- An element of an array by value, of several cells. -/
import Derived.Test.YtkncaafjkoeijaaLib
namespace Go.Proofs.Ytkncaafjkoeijaa.Lib
open Go.RowKit

theorem run_index_part {P : Program} {T E n k : Nat} {fs : Array Field} (W : World) (cs : Array Value) (i : Nat) (hT : P.underlying T = some (.array n E)) (hE : P.underlying E = some (.struct fs)) (hk : (P.info? E).map (·.size) = some k) (hi : i < n) :
    (Instr.index T (.agg cs) (.int .i64 i)).run P W = .ok (.agg (cs.extract (i * k) (i * k + k))) W := by
  obtain ⟨f, hf, hfk⟩ := Option.map_eq_some_iff.1 hk
  have hc : (0 : Int) ≤ (i : Int) ∧ (i : Int) < (n : Int) := by omega
  have hs : (sizeOf E).run P W = .ok k W := by simp [sizeOf, typeInfo, hf, hfk]
  have ha : (isAgg E).run P W = .ok true W := by simp [isAgg, run_underlying hE]
  simp only [Instr.index, asIntOf, Sem.run_bind, Sem.run_pure, run_underlying hT, Result.andThen_ok, hc, and_self, if_true, hs, Int.toNat_natCast, part, ha]
theorem run_index_arr {P : Program} {T E n k : Nat} {m F : Nat} (W : World) (cs : Array Value) (i : Nat) (hT : P.underlying T = some (.array n E)) (hE : P.underlying E = some (.array m F)) (hk : (P.info? E).map (·.size) = some k) (hi : i < n) :
    (Instr.index T (.agg cs) (.int .i64 i)).run P W = .ok (.agg (cs.extract (i * k) (i * k + k))) W := by
  obtain ⟨f, hf, hfk⟩ := Option.map_eq_some_iff.1 hk
  have hc : (0 : Int) ≤ (i : Int) ∧ (i : Int) < (n : Int) := by omega
  have hs : (sizeOf E).run P W = .ok k W := by simp [sizeOf, typeInfo, hf, hfk]
  have ha : (isAgg E).run P W = .ok true W := by simp [isAgg, run_underlying hE]
  simp only [Instr.index, asIntOf, Sem.run_bind, Sem.run_pure, run_underlying hT, Result.andThen_ok, hc, and_self, if_true, hs, Int.toNat_natCast, part, ha]

/-- Arrays of whole numbers, compared. -/
theorem run_equalIn_ints {P : Program} {T E n : Nat} {k kk : IntKind} (w : World) (d : Nat) (hT : P.underlying T = some (.array n E)) (hE : P.underlying E = some (.int kk)) (hk : (P.info? E).map (·.size) = some 1)
    (xs ys : List Int) (hx : xs.length = n) (hy : ys.length = n) :
    (Op.equalIn (d + 2) T (.agg (xs.map (Value.int k)).toArray) (.agg (ys.map (Value.int k)).toArray)).run P w = .ok ((List.range' 0 n 1).all fun i => xs.getD i 0 == ys.getD i 0) w := by
  obtain ⟨f, hf, hfk⟩ := Option.map_eq_some_iff.1 hk
  have hsz : ∀ W, (sizeOf E).run P W = .ok 1 W := fun W => by simp [sizeOf, typeInfo, hf, hfk]
  rw [Op.equalIn]
  simp only [Sem.run_bind, run_underlying hT, Result.andThen_ok, hsz, Std.Legacy.Range.forIn_eq_forIn_range', Std.Legacy.Range.size, Nat.sub_zero, Nat.add_sub_cancel, Nat.div_one]
  have hl : ∀ i ∈ List.range' 0 n 1, i < n := fun i hi => by simpa using (List.mem_range'_1.1 hi).2
  generalize List.range' 0 n 1 = l at hl ⊢
  induction l with
  | nil => simp
  | cons i l ih =>
    have hi : i < n := hl i (by simp)
    have px : (part E (xs.map (Value.int k)).toArray (i * 1)).run P w = .ok (.int k (xs.getD i 0)) w := by
      simp [part, isAgg, run_underlying hE, List.getD, List.getElem?_eq_getElem (show i < xs.length by omega)]
    have py : (part E (ys.map (Value.int k)).toArray (i * 1)).run P w = .ok (.int k (ys.getD i 0)) w := by
      simp [part, isAgg, run_underlying hE, List.getD, List.getElem?_eq_getElem (show i < ys.length by omega)]
    have pe : (Op.equalIn (d + 1) E (.int k (xs.getD i 0)) (.int k (ys.getD i 0))).run P w = .ok (xs.getD i 0 == ys.getD i 0) w := run_equalIn_int w d E k kk _ _ hE
    simp only [List.forIn_cons, Sem.run_bind, px, py, pe, Result.andThen_ok, List.all_cons]
    cases hb : (xs.getD i 0 == ys.getD i 0)
    · simp
    · simp only [Bool.not_true, Bool.false_eq_true, if_false, Sem.run_pure, Result.andThen_ok, Bool.true_and]
      exact ih fun j hj => hl j (by simp [hj])

theorem run_equalIn_pair {P : Program} {T E : Nat} {k kk : IntKind} (w : World) (hT : P.underlying T = some (.array 2 E)) (hE : P.underlying E = some (.int kk)) (hk : (P.info? E).map (·.size) = some 1) (a b c d : Int) :
    (Op.equalIn 10000 T (.agg #[.int k a, .int k b]) (.agg #[.int k c, .int k d])).run P w = .ok (a == c && b == d) w := by
  have := run_equalIn_ints (P := P) (k := k) w 9998 hT hE hk [a, b] [c, d] rfl rfl
  refine (this.trans ?_)
  simp [List.range']
end Go.Proofs.Ytkncaafjkoeijaa.Lib
