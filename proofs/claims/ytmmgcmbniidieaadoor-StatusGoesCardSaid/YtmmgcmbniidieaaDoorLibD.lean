
/- What every law of a seat with listed tables shares: a law whose call, where the tables are as the program's text lays them, returns true and leaves all that was there as it was meets its statement. -/
import Derived.Test.YtmmgcmbniidieaaDoorLib
import Derived.LaidMore
import Derived.LaidLaws
import Derived.LaidHandle
import Derived.MakeChecks
import Derived.Stop.Joined
import Derived.Deep.Slices
import Derived.SevenTiedAt
namespace Go.Proofs.YtmmgcmbniidieaaDoor.LibD
open Go.ChangeShapes Go.WideShapes Go.ChangeAt Go.RowKit
set_option linter.unusedVariables false

/-- The law's row, lifted from its walk. -/
theorem lifted {C : Checked} {os : Os} {f : FuncId} {fn : Func} {s : ChangeSpec} {tb : TypeId} {laid : List (String × DataW Unit)} (H : Type) (enc : TypeId × Value → H)
    (hown : ownKnob C.prog.godebug = none) (started : os.Started) (noInit : C.prog.inits.idxOf? f = none) (hfn : C.prog.funcs[f]? = some fn)
    (witness : ∃ (w : World) (tape : Tape) (i : Input), w.os = os ∧ (w.forCall tape i).Shaped C.prog ∧ i.vars = [] ∧ Input.okWide C.prog (w.forCall tape i) .any w.heap.size f i ∧
      ((s.pre enc C.prog fn [] false (w.forCall tape i).memory i.args ∧ laidMetH C.prog laid (w.forCall tape i).memory) ∧ sizedMet enc C.prog fn (OpenSpec.ofChange s) false (w.forCall tape i).memory i.args) ∧ ({} : Assume).holds C.prog (lone (Frame.enter C.prog f i.args .normal) [] (w.forCall tape i)))
    (hl : laidOutB C.prog = true) (hts : ∀ t ∈ fn.params.toList, C.prog.readableRec t = true ∧ t < C.prog.types.size)
    (hres : fn.resultTypes = #[tb]) (htb : C.prog.underlying tb = some .bool) (hvars : s.vars = [])
    (hspec : ∀ ds : List (DataW H), ds.length = fn.params.toList.length → (s.fn H ds).results = [.lit (.bool true)] ∧ (s.fn H ds).args = ds ∧ (s.fn H ds).vars = [])
    (walk : ∀ (W : World) (base : Nat) (args : Array Value) (ds : List (DataW H)) (p : List MemPlace),
      (∀ (j : Nat) t v, fn.params[j]? = some t → args[j]? = some v → Value.okWide C.prog W .any base t v) →
      DataW.TrodAll enc C.prog W 0 (fun _ => true) true fn.params.toList args.toList ds p → W.noneFrozen p → (∀ x ∈ p, x.block < W.heap.size) → laidMetH C.prog laid W →
      Calls C.prog f args W (Lib.True1 W.heap.size W)) :
    ReturnsInHanded {} C os f .any (fun w args => (s.pre enc C.prog fn [] false w args ∧ laidMetH C.prog laid w) ∧ sizedMet enc C.prog fn (OpenSpec.ofChange s) false w args) (s.post enc C.prog fn false true false false) := by
  refine returnsInHanded_of_change_and (C := C) (X := fun w _ => laidMetH C.prog laid w) (fun _ _ _ hh h => h.of_heap hh) hown started noInit hfn witness ?_
  intro W base args ds gs before hval hW _ _ hL _
  have hW' := hW
  obtain ⟨p, q, hA, hV, rfl, hfz, _⟩ := hW
  have hlt := hW'.lt
  rw [hvars] at hV
  obtain ⟨rfl, rfl⟩ := trodVars_none hV
  simp only [List.append_nil] at hlt hfz hW'
  obtain ⟨hs1, hs2, hs3⟩ := hspec ds (Lib.trodAll_length _ _ _ _ hA)
  refine (walk W base args ds p hval hA hfz hlt hL).mono fun e W' ⟨he, hb⟩ => ?_
  refine ⟨_, he, ds, [], p, [], p, [], hW', ?_, ?_, ?_, hb.frame _, fun h => by cases h⟩
  · rw [hres, List.append_nil, hs1]
    exact trodAll_mk1 (shut_bool htb true)
  · rw [List.append_nil, hs2]
    exact Lib.all_stay hl hb _ _ _ _ hts hA hlt
  · rw [hvars, List.append_nil, hs3]
    rfl

/-- No parameter wants a stand-in. -/
theorem no_stand {P : Program} {fn : Func} (h : (fn.params.toList.all fun u => !P.wantsStandIn u) = true) : ∀ (j : Nat) t, fn.params[j]? = some t → P.wantsStandIn t = false := fun j t ht => by
  have hm : t ∈ fn.params.toList := Array.mem_toList_iff.2 (Array.mem_of_getElem? ht)
  simpa using List.all_eq_true.1 h t hm

/-- A listed slice of pairs of numbers (arrays of two), opened. -/
theorem open_pairs {H : Type} {enc : TypeId × Value → H} {P : Program} {w : World} {base : Nat} {sp : Nat → Bool} {held : Bool} {fuel : Nat} {t e u : TypeId} {k : IntKind} {cs : List Value} {ds rest : List (DataW H)} {p : List MemPlace}
    (ht : P.underlying t = some (.slice e)) (he : P.underlying e = some (.array 2 u)) (hu : P.underlying u = some (.int k)) (ce : P.cellsOf e = 2) (cu : P.cellsOf u = 1)
    (h : DataW.trod enc P w base sp held fuel t cs = some (.slice ds rest, p)) :
    ∃ (a : Addr) (cap : Nat), cs = [.slice (some a) ds.length cap] ∧ ∀ i, i < ds.length → ∃ x y, ds[i]? = some (.agg [.lit (.int k x), .lit (.int k y)]) ∧ w.cell? (a.add (i * 2)) = some (.int k x) ∧ w.cell? (a.add (i * 2 + 1)) = some (.int k y) := by
  rcases Go.Deep.open_slice ht h with ⟨_, hx⟩ | ⟨a, len, cap, m, n, D, Pl, rfl, hb, hl, hm, hmm, hx, hel⟩
  · simp at hx
  simp only [Prod.mk.injEq, DataW.slice.injEq] at hx
  obtain ⟨⟨hx1, hx2⟩, _⟩ := hx
  have hlen : ds.length = len := by rw [hx1]; simp
  refine ⟨a, cap, by rw [hlen], fun i hi => ?_⟩
  rw [hlen] at hi
  obtain ⟨cs', hc, ht'⟩ := hel i (by subst hmm; split <;> omega)
  rw [ce] at hc
  obtain ⟨xs, m1, hn1, hy, hcl, hxl, hff⟩ := DataW.trod_array he ht'
  obtain ⟨hlen', hcl', hat⟩ := World.cells?_some hc
  rw [cu] at hff
  have h0 := hff 0 (by omega)
  have h1 := hff 1 (by omega)
  match cs', hlen' with
  | [c0, c1], _ =>
  have e0 := hat (i := 0) (by omega)
  have e1 := hat (i := 1) (by omega)
  rw [Go.Deep.add_add] at e0 e1
  simp only [List.getElem?_cons_zero, List.getElem?_cons_succ] at e0 e1
  match xs, hxl with
  | [y0, y1], _ =>
  simp only [List.getElem?_cons_zero, List.getElem?_cons_succ] at h0 h1
  obtain ⟨x, f1, f2, _⟩ := DataW.trod_int hu h0
  obtain ⟨y, f3, f4, _⟩ := DataW.trod_int hu h1
  simp at f1 f3
  subst f1 f3
  refine ⟨x, y, ?_, e0, e1⟩
  simp only [Prod.mk.injEq] at hy
  have hD := hy.1
  rw [f2, f4] at hD
  rw [hx1, List.getElem?_map, List.getElem?_range hi, Option.map_some, hD]
  rfl

end Go.Proofs.YtmmgcmbniidieaaDoor.LibD
