
/- Package feat: the rules, applied until nothing changes. -/
import Derived.Test.YtmmgcmbniidieaaDoorLib
import Derived.Test.YtmmgcmbniidieaaDoorRow
import Derived.Test.YtmmgcmbniidieaaDoorFeBits
import Derived.LoopN
namespace Go.Proofs.YtmmgcmbniidieaaDoor.Fe
open Go.RowKit Rw
set_option linter.unusedSimpArgs false
set_option linter.unusedVariables false

def Gives (B : Nat) (w : World) (v : Value) (e : Ending) (w' : World) : Prop := e = .returned v ∧ Below B w w'
abbrev st (X : Set64) : Value := .int .u64 (nu X)

def addF (r0 r1 X : Set64) : Set64 := if X &&& r0 == 0#64 then X else X ||| r1
def dropF (r0 r1 X : Set64) : Set64 := if X &&& r1 == 0#64 then X &&& ~~~r0 else X
/-- The rules. -/
def R0 (k : Nat) : Set64 := if k = 0 then 262144#64 else if k = 1 then 524288#64 else if k = 2 then 4194304#64 else 8388608#64
def R1 (k : Nat) : Set64 := if k < 4 then 131072#64 else 32#64
def ruleC (j : Nat) : Value := if j % 2 = 0 then st (R0 (j / 2)) else st (R1 (j / 2))
theorem ruleC0 (k : Nat) : ruleC (k * 2) = st (R0 k) := by unfold ruleC; rw [if_pos (by omega)]; congr 3; omega
theorem ruleC1 (k : Nat) : ruleC (k * 2 + 1) = st (R1 k) := by unfold ruleC; rw [if_neg (by omega)]; congr 3; omega
/-- The first k rules, each applied. -/
def pass (F : Set64 → Set64 → Set64 → Set64) (X : Set64) : Nat → Set64
  | 0 => X
  | k + 1 => F (R0 k) (R1 k) (pass F X k)

/-- Where the rules lie. -/
structure Rules (W : World) (ad : Addr) (cap : Nat) : Prop where
  glob : W.cell? ⟨0, 0, none⟩ = some (.slice (some ad) 5 cap)
  lt0 : 0 < W.heap.size
  lt : ad.block < W.heap.size
  row : ∀ j, j < 5 * 2 → W.cell? (ad.add j) = some (ruleC j)
theorem Rules.below {W W' : World} {ad : Addr} {cap : Nat} (h : Rules W ad cap) (hb : Below W.heap.size W W') : Rules W' ad cap :=
  ⟨(hb.cell (p := ⟨0, 0, none⟩) h.lt0).trans h.glob, Nat.lt_of_lt_of_le h.lt0 hb.size, Nat.lt_of_lt_of_le h.lt hb.size, fun j hj => (hb.cell (p := ad.add j) (by rw [block_of_add]; exact h.lt)).trans (h.row j hj)⟩

theorem add_any (X r0 r1 : Set64) (w : World) : Calls Tryd.prog 47 #[st X, .agg #[st r0, st r1]] w (Gives w.heap.size w (st (addF r0 r1 X))) := by
  unfold Gives addF
  have e1 := b_and X r0
  have e2 := b_or X r1
  cases h : (X &&& r0 == 0#64) with
  | true =>
    have c : (nu (X &&& r0) != 0) = false := by rw [bne, nu_beq0, h]; rfl
    clear h
    go_enter Tryd.func47, Tryd.ntmps47
    go_wp2
    go_ret
    exact ⟨rfl, by go_grown⟩
  | false =>
    have c : (nu (X &&& r0) != 0) = true := by rw [bne, nu_beq0, h]; rfl
    clear h
    go_enter Tryd.func47, Tryd.ntmps47
    go_wp2
    go_ret
    exact ⟨rfl, by go_grown⟩
theorem drop_any (X r0 r1 : Set64) (w : World) : Calls Tryd.prog 34 #[st X, .agg #[st r0, st r1]] w (Gives w.heap.size w (st (dropF r0 r1 X))) := by
  unfold Gives dropF
  have e1 := b_and X r1
  have e2 := b_andNot X r0
  cases h : (X &&& r1 == 0#64) with
  | true =>
    have c : (nu (X &&& r1) == 0) = true := by rw [nu_beq0, h]
    clear h
    go_enter Tryd.func34, Tryd.ntmps34
    go_wp2
    go_ret
    exact ⟨rfl, by go_grown⟩
  | false =>
    have c : (nu (X &&& r1) == 0) = false := by rw [nu_beq0, h]
    clear h
    go_enter Tryd.func34, Tryd.ntmps34
    go_wp2
    go_ret
    exact ⟨rfl, by go_grown⟩

set_option maxRecDepth 100000 in
set_option maxHeartbeats 2000000 in
theorem settle_add (X : Set64) (ad : Addr) (cap : Nat) (w : World) (hR : Rules w ad cap) (hI : pass addF (pass addF X 5) 5 = pass addF X 5) : Calls Tryd.prog 33 #[st X, .func (.func 47) #[] #[]] w (Gives w.heap.size w (st (pass addF X 5))) := by
  unfold Gives
  have HR := Lib.hid hR
  have HI := Lib.hid hI
  clear hR hI
  go_enter Tryd.func33, Tryd.ntmps33
  go_wp2_with fail
  go_loopw [0] (fun s wr => ∃ Y : Set64, s = st Y ∧ pass addF Y 5 = pass addF X 5 ∧ Below w.heap.size w wr) (fun s wr => if intOf s = nu (pass addF X 5) then 0 else 1)
  case atStart => exact ⟨_, rfl, rfl, Below.refl _ _⟩
  case round =>
    obtain ⟨Y, rfl, hY, hb⟩ := hrel
    have HY := Lib.hid hY
    clear hY
    have g0 := (HR.out.below hb).glob
    go_wp2_with fail
    clear g0
    go_loopw [0, 11] (fun s i w2 => ∃ k : Nat, k ≤ 5 ∧ i = .int .i64 k ∧ s = st (pass addF Y k) ∧ Below w.heap.size w w2) (fun s i w2 => 5 - (intOf i).toNat)
    case atStart => exact ⟨0, by omega, rfl, rfl, hb⟩
    case round =>
      obtain ⟨k, hk, rfl, rfl, hb2⟩ := hrel
      by_cases hlt : k < 5
      · have hcw := (HR.out.below hb2).row
        have c0 := (el0 hcw hlt (by omega)).trans (by rw [ruleC0])
        have c1 := (elj hcw hlt 1 (by omega) (by omega)).trans (by rw [ruleC1])
        clear hcw
        go_wp2_with fail
        clear c0 c1
        refine (add_any _ _ _ _).mono ?_
        rintro e W3 ⟨rfl, hg⟩
        have hsz := hb2.size
        have hb3 : Below w.heap.size w W3 := (show Below w.heap.size w _ by go_grown).trans (hg.mono (by go_size))
        clear hg
        go_wp2_with fail
        go_roundw
        case rel => exact ⟨k + 1, by omega, by go_num, rfl, hb3⟩
        case measure => simp [intOf]; omega
      · obtain rfl : k = 5 := by omega
        have q : pass addF Y 5 = pass addF X 5 := HY.out
        cases hc : (pass addF X 5 == Y) with
        | true =>
          have c : (nu (pass addF X 5) == nu Y) = true := by rw [nu_beq, hc]
          clear hc
          go_wp2_with fail
          go_ret
          exact ⟨by rw [← q]; rfl, hb2⟩
        | false =>
          have c : (nu (pass addF X 5) == nu Y) = false := by rw [nu_beq, hc]
          go_wp2_with fail
          go_roundw
          case rel => exact ⟨pass addF X 5, by rw [q], HI.out, hb2⟩
          case measure =>
            have h1 : ¬ nu Y = nu (pass addF X 5) := fun e => by
              rw [nu_inj.1 e] at hc
              simp at hc
            simp [intOf, q, h1]

set_option maxRecDepth 100000 in
set_option maxHeartbeats 2000000 in
theorem settle_drop (X : Set64) (ad : Addr) (cap : Nat) (w : World) (hR : Rules w ad cap) (hI : pass dropF (pass dropF X 5) 5 = pass dropF X 5) : Calls Tryd.prog 33 #[st X, .func (.func 34) #[] #[]] w (Gives w.heap.size w (st (pass dropF X 5))) := by
  unfold Gives
  have HR := Lib.hid hR
  have HI := Lib.hid hI
  clear hR hI
  go_enter Tryd.func33, Tryd.ntmps33
  go_wp2_with fail
  go_loopw [0] (fun s wr => ∃ Y : Set64, s = st Y ∧ pass dropF Y 5 = pass dropF X 5 ∧ Below w.heap.size w wr) (fun s wr => if intOf s = nu (pass dropF X 5) then 0 else 1)
  case atStart => exact ⟨_, rfl, rfl, Below.refl _ _⟩
  case round =>
    obtain ⟨Y, rfl, hY, hb⟩ := hrel
    have HY := Lib.hid hY
    clear hY
    have g0 := (HR.out.below hb).glob
    go_wp2_with fail
    clear g0
    go_loopw [0, 11] (fun s i w2 => ∃ k : Nat, k ≤ 5 ∧ i = .int .i64 k ∧ s = st (pass dropF Y k) ∧ Below w.heap.size w w2) (fun s i w2 => 5 - (intOf i).toNat)
    case atStart => exact ⟨0, by omega, rfl, rfl, hb⟩
    case round =>
      obtain ⟨k, hk, rfl, rfl, hb2⟩ := hrel
      by_cases hlt : k < 5
      · have hcw := (HR.out.below hb2).row
        have c0 := (el0 hcw hlt (by omega)).trans (by rw [ruleC0])
        have c1 := (elj hcw hlt 1 (by omega) (by omega)).trans (by rw [ruleC1])
        clear hcw
        go_wp2_with fail
        clear c0 c1
        refine (drop_any _ _ _ _).mono ?_
        rintro e W3 ⟨rfl, hg⟩
        have hsz := hb2.size
        have hb3 : Below w.heap.size w W3 := (show Below w.heap.size w _ by go_grown).trans (hg.mono (by go_size))
        clear hg
        go_wp2_with fail
        go_roundw
        case rel => exact ⟨k + 1, by omega, by go_num, rfl, hb3⟩
        case measure => simp [intOf]; omega
      · obtain rfl : k = 5 := by omega
        have q : pass dropF Y 5 = pass dropF X 5 := HY.out
        cases hc : (pass dropF X 5 == Y) with
        | true =>
          have c : (nu (pass dropF X 5) == nu Y) = true := by rw [nu_beq, hc]
          clear hc
          go_wp2_with fail
          go_ret
          exact ⟨by rw [← q]; rfl, hb2⟩
        | false =>
          have c : (nu (pass dropF X 5) == nu Y) = false := by rw [nu_beq, hc]
          go_wp2_with fail
          go_roundw
          case rel => exact ⟨pass dropF X 5, by rw [q], HI.out, hb2⟩
          case measure =>
            have h1 : ¬ nu Y = nu (pass dropF X 5) := fun e => by
              rw [nu_inj.1 e] at hc
              simp at hc
            simp [intOf, q, h1]

end Go.Proofs.YtmmgcmbniidieaaDoor.Fe
