/- What a word sets, on the valid states: twelve of them. No program here. -/
import Derived.Test.YtmmgcmbniidieaaDoorStBits
namespace Go.Proofs.YtmmgcmbniidieaaDoor.St
open Go.RowKit Fe
set_option linter.unusedSimpArgs false
set_option linter.unusedVariables false

def L12 : List Byte := [0#8, 1#8, 3#8, 11#8, 15#8, 79#8, 128#8, 129#8, 131#8, 139#8, 143#8, 207#8]
set_option maxRecDepth 100000 in
theorem twelve0 : ∀ n : Fin 256, ∀ a z : Bool, (maskB (BitVec.ofFin n) && allowedB (BitVec.ofFin n) a z) = true → BitVec.ofFin n ∈ L12 := by decide +kernel
theorem twelve {s : Byte} {a z : Bool} (h1 : maskB s = true) (h2 : allowedB s a z = true) : s ∈ L12 := twelve0 s.toFin a z (by
  show (maskB s && allowedB s a z) = true
  rw [h1, h2]; rfl)
/-- A word by its bits. -/
def putB (s : Byte) (p m : Bool) (b : Byte) : Byte := if p && m then s ||| b else s
def setV (s : Byte) (p0 p1 p2 p3 p4 a : Bool) : Byte :=
  let t0 := putB s p0 true 1#8
  let t1 := putB t0 p1 (hasb t0 1#8) 2#8
  let t2 := putB t1 p2 (hasb t1 2#8 && a) 8#8
  let t3 := putB t2 p3 (hasb t2 8#8) 4#8
  putB t3 p4 true 128#8
theorem setTo_V (s wd : Byte) (a : Bool) : setTo s wd a 5 = setV s (hasb wd 1#8) (hasb wd 2#8) (hasb wd 8#8) (hasb wd 4#8) (hasb wd 128#8) a := rfl
/-- Writing the bits one by one. -/
def oneTo (s wd : Byte) (a : Bool) : Nat → Byte
  | 0 => s
  | k + 1 => if hasb wd (bitOf k) then setTo (oneTo s wd a k) (bitOf k) a 5 else oneTo s wd a k
def pick5 (p0 p1 p2 p3 p4 : Bool) (k : Nat) : Bool := if k = 0 then p0 else if k = 1 then p1 else if k = 2 then p2 else if k = 3 then p3 else p4
def oneV (s : Byte) (p0 p1 p2 p3 p4 a : Bool) : Nat → Byte
  | 0 => s
  | k + 1 => if pick5 p0 p1 p2 p3 p4 k then setV (oneV s p0 p1 p2 p3 p4 a k) (k == 0) (k == 1) (k == 2) (k == 3) (k == 4) a else oneV s p0 p1 p2 p3 p4 a k
theorem oneTo_V (s wd : Byte) (a : Bool) : ∀ k, k ≤ 5 → oneTo s wd a k = oneV s (hasb wd 1#8) (hasb wd 2#8) (hasb wd 8#8) (hasb wd 4#8) (hasb wd 128#8) a k
  | 0, _ => rfl
  | 1, _ => rfl
  | 2, _ => rfl
  | 3, _ => rfl
  | 4, _ => rfl
  | 5, _ => rfl
def okB (s : Byte) (a z : Bool) : Bool := maskB s && allowedB s a z
set_option maxRecDepth 100000 in
theorem set_ok0 : ∀ s ∈ L12, ∀ p0 p1 p2 p3 p4 a z : Bool, okB s a z = true → okB (setV s p0 p1 p2 p3 p4 a) a z = true := by decide +kernel
set_option maxRecDepth 100000 in
theorem set_set0 : ∀ s ∈ L12, ∀ p0 p1 p2 p3 p4 a : Bool, setV (setV s p0 p1 p2 p3 p4 a) p0 p1 p2 p3 p4 a = setV s p0 p1 p2 p3 p4 a := by decide +kernel
set_option maxRecDepth 100000 in
theorem one_ok0 : ∀ s ∈ L12, ∀ p0 p1 p2 p3 p4 a z : Bool, okB s a z = true → ∀ k : Fin 6, okB (oneV s p0 p1 p2 p3 p4 a k.val) a z = true := by decide +kernel
set_option maxRecDepth 100000 in
theorem one_set0 : ∀ s ∈ L12, ∀ p0 p1 p2 p3 p4 a z : Bool, okB s a z = true → oneV s p0 p1 p2 p3 p4 a 5 = setV s p0 p1 p2 p3 p4 a := by decide +kernel
theorem in12 {s : Byte} {a z : Bool} (h : okB s a z = true) : s ∈ L12 := by
  unfold okB at h
  rw [Bool.and_eq_true] at h
  exact twelve h.1 h.2
theorem set_ok {s : Byte} {a z : Bool} (wd : Byte) (h : okB s a z = true) : okB (setTo s wd a 5) a z = true := by rw [setTo_V]; exact set_ok0 s (in12 h) _ _ _ _ _ _ _ h
theorem set_set {s : Byte} {a z : Bool} (wd : Byte) (h : okB s a z = true) : setTo (setTo s wd a 5) wd a 5 = setTo s wd a 5 := by rw [setTo_V, setTo_V]; exact set_set0 s (in12 h) _ _ _ _ _ _
theorem one_ok {s : Byte} {a z : Bool} (wd : Byte) (h : okB s a z = true) {k : Nat} (hk : k ≤ 5) : okB (oneTo s wd a k) a z = true := by rw [oneTo_V _ _ _ _ hk]; exact one_ok0 s (in12 h) _ _ _ _ _ _ _ h ⟨k, by omega⟩
theorem one_set {s : Byte} {a z : Bool} (wd : Byte) (h : okB s a z = true) : oneTo s wd a 5 = setTo s wd a 5 := by rw [oneTo_V _ _ _ _ (by decide), setTo_V]; exact one_set0 s (in12 h) _ _ _ _ _ _ _ h
theorem valid_ok {k : Int} {O G : Set64} {s : Byte} : validB k O G s = (offersB k O && okB s (acceptB k O G) (G == 0#64)) := by
  unfold validB okB; rw [Bool.and_assoc]

end Go.Proofs.YtmmgcmbniidieaaDoor.St
