
/- Cells of a block, stored one after the other. -/
import Derived.Test.YtkejcdephnkkgaaLib
import Derived.Laws.Cover3
import Derived.Laws.Cells
namespace Go.Proofs.Ytkejcdephnkkgaa.Lib
open Go.RowKit

def setN (b : Nat) : Nat → List Value → World → World
  | _, [], w => w
  | o, v :: l, w => setN b (o + 1) l (w.setCell ⟨b, o, none⟩ v)
def HasRow (w : World) (b : Nat) : Nat → List Value → Prop
  | _, [] => True
  | o, _ :: l => (∃ u, w.cell? ⟨b, o, none⟩ = some u) ∧ HasRow w b (o + 1) l
def RowAt (w : World) (b : Nat) : Nat → List Value → Prop
  | _, [] => True
  | o, v :: l => w.cell? ⟨b, o, none⟩ = some v ∧ RowAt w b (o + 1) l

theorem HasRow.set {b : Nat} : ∀ (l : List Value) (o k : Nat) (w : World) (x : Value), k < o → HasRow w b o l → HasRow (w.setCell ⟨b, k, none⟩ x) b o l
  | [], _, _, _, _, _, _ => trivial
  | _ :: l, o, k, w, x, hk, ⟨⟨u, hu⟩, h⟩ => ⟨⟨u, (World.cell?_setCell_other _ _ _ _ (by simp <;> omega)).trans hu⟩, HasRow.set l (o + 1) k w x (by omega) h⟩
theorem setN_low {b : Nat} : ∀ (l : List Value) (o k : Nat) (w : World), k < o → (setN b o l w).cell? ⟨b, k, none⟩ = w.cell? ⟨b, k, none⟩
  | [], _, _, _, _ => rfl
  | v :: l, o, k, w, hk => (setN_low l (o + 1) k _ (by omega)).trans (World.cell?_setCell_other _ _ _ _ (by simp <;> omega))
theorem setN_row {b : Nat} : ∀ (l : List Value) (o : Nat) (w : World), HasRow w b o l → RowAt (setN b o l w) b o l
  | [], _, _, _ => trivial
  | v :: l, o, w, ⟨⟨u, hu⟩, h⟩ => ⟨(setN_low l (o + 1) o _ (by omega)).trans (World.cell?_setCell_same' _ _ _ (by rw [hu]; rfl)), setN_row l (o + 1) _ (HasRow.set l (o + 1) o w v (by omega) h)⟩
theorem set_row {W W' : World} {b : Nat} (l : List Value) (h : HasRow W b 0 l) (e : setN b 0 l W = W') : RowAt W' b 0 l := e ▸ setN_row l 0 W h
/-- The end of a function whose result is a struct in memory, stored last. -/
theorem bodyPost_cells {P : Program} {fn : Func} {R : Ending → World → Prop} {a : Act} {B : Nat} {w X : World} {b : Nat} (l : List Value) (v : Value) (h : HasRow X b 0 l) (hB : Below B w (setN b 0 l X)) (hd : a.defers = [])
    (hr : ∀ WG, RowAt WG b 0 l → (results fn a.tmps).run P WG = .ok v WG) (hR : ∀ WG, Below B w WG → R (.returned v) WG) : bodyPost P fn R .ret a (setN b 0 l X) :=
  bodyPost_ret (hr _ (setN_row l 0 X h)) hd (hR _ hB)
theorem bodyPost_at2 {P : Program} {fn : Func} {R : Ending → World → Prop} {a : Act} {B : Nat} {w X : World} (b : Nat) (v0 v1 v : Value) (h0 : X.cell? ⟨b, 0, none⟩ = some v0) (h1 : X.cell? ⟨b, 1, none⟩ = some v1)
    (hB : Below B w X) (hd : a.defers = [])
    (hr : ∀ WG : World, WG.cell? ⟨b, 0, none⟩ = some v0 → WG.cell? ⟨b, 1, none⟩ = some v1 → (results fn a.tmps).run P WG = .ok v WG) (hR : ∀ WG, Below B w WG → R (.returned v) WG) : bodyPost P fn R .ret a X :=
  bodyPost_ret (hr X h0 h1) hd (hR X hB)
theorem bodyPost_at3 {P : Program} {fn : Func} {R : Ending → World → Prop} {a : Act} {B : Nat} {w X : World} (b : Nat) (v0 v1 v2 v : Value) (h0 : X.cell? ⟨b, 0, none⟩ = some v0) (h1 : X.cell? ⟨b, 1, none⟩ = some v1) (h2 : X.cell? ⟨b, 2, none⟩ = some v2)
    (hB : Below B w X) (hd : a.defers = [])
    (hr : ∀ WG : World, WG.cell? ⟨b, 0, none⟩ = some v0 → WG.cell? ⟨b, 1, none⟩ = some v1 → WG.cell? ⟨b, 2, none⟩ = some v2 → (results fn a.tmps).run P WG = .ok v WG) (hR : ∀ WG, Below B w WG → R (.returned v) WG) : bodyPost P fn R .ret a X :=
  bodyPost_ret (hr X h0 h1 h2) hd (hR X hB)
theorem bodyPost_at4 {P : Program} {fn : Func} {R : Ending → World → Prop} {a : Act} {B : Nat} {w X : World} (b : Nat) (v0 v1 v2 v3 v : Value) (h0 : X.cell? ⟨b, 0, none⟩ = some v0) (h1 : X.cell? ⟨b, 1, none⟩ = some v1) (h2 : X.cell? ⟨b, 2, none⟩ = some v2) (h3 : X.cell? ⟨b, 3, none⟩ = some v3)
    (hB : Below B w X) (hd : a.defers = [])
    (hr : ∀ WG : World, WG.cell? ⟨b, 0, none⟩ = some v0 → WG.cell? ⟨b, 1, none⟩ = some v1 → WG.cell? ⟨b, 2, none⟩ = some v2 → WG.cell? ⟨b, 3, none⟩ = some v3 → (results fn a.tmps).run P WG = .ok v WG) (hR : ∀ WG, Below B w WG → R (.returned v) WG) : bodyPost P fn R .ret a X :=
  bodyPost_ret (hr X h0 h1 h2 h3) hd (hR X hB)
theorem bodyPost_at5 {P : Program} {fn : Func} {R : Ending → World → Prop} {a : Act} {B : Nat} {w X : World} (b : Nat) (v0 v1 v2 v3 v4 v : Value) (h0 : X.cell? ⟨b, 0, none⟩ = some v0) (h1 : X.cell? ⟨b, 1, none⟩ = some v1) (h2 : X.cell? ⟨b, 2, none⟩ = some v2) (h3 : X.cell? ⟨b, 3, none⟩ = some v3) (h4 : X.cell? ⟨b, 4, none⟩ = some v4)
    (hB : Below B w X) (hd : a.defers = [])
    (hr : ∀ WG : World, WG.cell? ⟨b, 0, none⟩ = some v0 → WG.cell? ⟨b, 1, none⟩ = some v1 → WG.cell? ⟨b, 2, none⟩ = some v2 → WG.cell? ⟨b, 3, none⟩ = some v3 → WG.cell? ⟨b, 4, none⟩ = some v4 → (results fn a.tmps).run P WG = .ok v WG) (hR : ∀ WG, Below B w WG → R (.returned v) WG) : bodyPost P fn R .ret a X :=
  bodyPost_ret (hr X h0 h1 h2 h3 h4) hd (hR X hB)
theorem bodyPost_at6 {P : Program} {fn : Func} {R : Ending → World → Prop} {a : Act} {B : Nat} {w X : World} (b : Nat) (v0 v1 v2 v3 v4 v5 v : Value) (h0 : X.cell? ⟨b, 0, none⟩ = some v0) (h1 : X.cell? ⟨b, 1, none⟩ = some v1) (h2 : X.cell? ⟨b, 2, none⟩ = some v2) (h3 : X.cell? ⟨b, 3, none⟩ = some v3) (h4 : X.cell? ⟨b, 4, none⟩ = some v4) (h5 : X.cell? ⟨b, 5, none⟩ = some v5)
    (hB : Below B w X) (hd : a.defers = [])
    (hr : ∀ WG : World, WG.cell? ⟨b, 0, none⟩ = some v0 → WG.cell? ⟨b, 1, none⟩ = some v1 → WG.cell? ⟨b, 2, none⟩ = some v2 → WG.cell? ⟨b, 3, none⟩ = some v3 → WG.cell? ⟨b, 4, none⟩ = some v4 → WG.cell? ⟨b, 5, none⟩ = some v5 → (results fn a.tmps).run P WG = .ok v WG) (hR : ∀ WG, Below B w WG → R (.returned v) WG) : bodyPost P fn R .ret a X :=
  bodyPost_ret (hr X h0 h1 h2 h3 h4 h5) hd (hR X hB)
theorem bodyPost_at9 {P : Program} {fn : Func} {R : Ending → World → Prop} {a : Act} {B : Nat} {w X : World} (b : Nat) (v0 v1 v2 v3 v4 v5 v6 v7 v8 v : Value) (h0 : X.cell? ⟨b, 0, none⟩ = some v0) (h1 : X.cell? ⟨b, 1, none⟩ = some v1) (h2 : X.cell? ⟨b, 2, none⟩ = some v2) (h3 : X.cell? ⟨b, 3, none⟩ = some v3) (h4 : X.cell? ⟨b, 4, none⟩ = some v4) (h5 : X.cell? ⟨b, 5, none⟩ = some v5) (h6 : X.cell? ⟨b, 6, none⟩ = some v6) (h7 : X.cell? ⟨b, 7, none⟩ = some v7) (h8 : X.cell? ⟨b, 8, none⟩ = some v8)
    (hB : Below B w X) (hd : a.defers = [])
    (hr : ∀ WG : World, WG.cell? ⟨b, 0, none⟩ = some v0 → WG.cell? ⟨b, 1, none⟩ = some v1 → WG.cell? ⟨b, 2, none⟩ = some v2 → WG.cell? ⟨b, 3, none⟩ = some v3 → WG.cell? ⟨b, 4, none⟩ = some v4 → WG.cell? ⟨b, 5, none⟩ = some v5 → WG.cell? ⟨b, 6, none⟩ = some v6 → WG.cell? ⟨b, 7, none⟩ = some v7 → WG.cell? ⟨b, 8, none⟩ = some v8 → (results fn a.tmps).run P WG = .ok v WG) (hR : ∀ WG, Below B w WG → R (.returned v) WG) : bodyPost P fn R .ret a X :=
  bodyPost_ret (hr X h0 h1 h2 h3 h4 h5 h6 h7 h8) hd (hR X hB)
theorem bodyPost_here2 {P : Program} {fn : Func} {R : Ending → World → Prop} {a : Act} {X : World} (b : Nat) (v0 v1 v : Value) (h0 : X.cell? ⟨b, 0, none⟩ = some v0) (h1 : X.cell? ⟨b, 1, none⟩ = some v1) (hd : a.defers = [])
    (hr : ∀ WG : World, WG.cell? ⟨b, 0, none⟩ = some v0 → WG.cell? ⟨b, 1, none⟩ = some v1 → (results fn a.tmps).run P WG = .ok v WG) (hR : R (.returned v) X) : bodyPost P fn R .ret a X :=
  bodyPost_ret (hr X h0 h1) hd hR
theorem bodyPost_here3 {P : Program} {fn : Func} {R : Ending → World → Prop} {a : Act} {X : World} (b : Nat) (v0 v1 v2 v : Value) (h0 : X.cell? ⟨b, 0, none⟩ = some v0) (h1 : X.cell? ⟨b, 1, none⟩ = some v1) (h2 : X.cell? ⟨b, 2, none⟩ = some v2) (hd : a.defers = [])
    (hr : ∀ WG : World, WG.cell? ⟨b, 0, none⟩ = some v0 → WG.cell? ⟨b, 1, none⟩ = some v1 → WG.cell? ⟨b, 2, none⟩ = some v2 → (results fn a.tmps).run P WG = .ok v WG) (hR : R (.returned v) X) : bodyPost P fn R .ret a X :=
  bodyPost_ret (hr X h0 h1 h2) hd hR
theorem bodyPost_here4 {P : Program} {fn : Func} {R : Ending → World → Prop} {a : Act} {X : World} (b : Nat) (v0 v1 v2 v3 v : Value) (h0 : X.cell? ⟨b, 0, none⟩ = some v0) (h1 : X.cell? ⟨b, 1, none⟩ = some v1) (h2 : X.cell? ⟨b, 2, none⟩ = some v2) (h3 : X.cell? ⟨b, 3, none⟩ = some v3) (hd : a.defers = [])
    (hr : ∀ WG : World, WG.cell? ⟨b, 0, none⟩ = some v0 → WG.cell? ⟨b, 1, none⟩ = some v1 → WG.cell? ⟨b, 2, none⟩ = some v2 → WG.cell? ⟨b, 3, none⟩ = some v3 → (results fn a.tmps).run P WG = .ok v WG) (hR : R (.returned v) X) : bodyPost P fn R .ret a X :=
  bodyPost_ret (hr X h0 h1 h2 h3) hd hR
end Go.Proofs.Ytkejcdephnkkgaa.Lib
