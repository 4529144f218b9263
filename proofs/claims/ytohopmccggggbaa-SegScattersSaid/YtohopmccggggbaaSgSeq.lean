/- Bytes set one after the other: what Scatter leaves, as the law reckons it. No walk. -/
import Derived.Test.YtohopmccggggbaaSgOne
namespace Go.Proofs.Ytohopmccggggbaa.SgSeq
open Go.RowKit Rw Sg SgCheck SgTake SgTotal SgCut SgMath SgIn SgScat SgConcat SgJoin SgArgs SgGath SgOne GmFind GmWord GmRead GmWrite GmLoad
set_option linter.unusedVariables false
set_option linter.unusedSimpArgs false

/-- The addresses of a segment's bytes; of all. -/
def addr (x : S3) : List Int := (List.range x.n.toNat).map fun j => x.a + (j : Nat)
def addrs (l : List S3) : List Int := l.flatMap addr
/-- Of those that are written. -/
def wad : List S3 → List Int
  | [] => []
  | x :: r => (if x.w = true then addr x else []) ++ wad r
theorem addrs_cons (x : S3) (l : List S3) : addrs (x :: l) = addr x ++ addrs l := rfl
theorem addr_len (x : S3) : (addr x).length = x.n.toNat := by simp [addr]
theorem addrs_len (l : List S3) (h : ∀ x ∈ l, x.Val) : ((addrs l).length : Int) = sm l := by
  induction l with
  | nil => rfl
  | cons x l ih =>
    have := ih (fun y hy => h y (by simp [hy]))
    have := (h x (by simp)).n0
    rw [addrs_cons, List.length_append, addr_len, sm_cons]
    omega
theorem wad_append (l r : List S3) : wad (l ++ r) = wad l ++ wad r := by
  induction l with
  | nil => rfl
  | cons x l ih => show _ ++ wad (l ++ r) = (_ ++ wad l) ++ wad r; rw [ih, List.append_assoc]
theorem wad_reads {l : List S3} (h : Reads l) : wad l = [] := by
  induction l with
  | nil => rfl
  | cons x l ih =>
    show (if x.w = true then addr x else []) ++ wad l = []
    rw [h x (by simp), ih (fun y hy => h y (by simp [hy]))]
    rfl
def Writes (l : List S3) : Prop := ∀ x ∈ l, x.w = true
theorem wad_writes {l : List S3} (h : Writes l) : wad l = addrs l := by
  induction l with
  | nil => rfl
  | cons x l ih =>
    show (if x.w = true then addr x else []) ++ wad l = addr x ++ addrs l
    rw [if_pos (h x (by simp)), ih (fun y hy => h y (by simp [hy]))]
theorem ord_true {l : List S3} (h : ord true l) : Writes l := by
  induction l with
  | nil => intro x hx; cases hx
  | cons y t ih =>
    intro x hx
    rcases List.mem_cons.1 hx with rfl | hx
    · exact h.1 rfl
    · have := h.2
      rw [h.1 rfl] at this
      exact ih this x hx
theorem writes_drop {l : List S3} (hv : ∀ x ∈ l, x.Val) (ho : ord false l) : Writes (dropL (tot false l) l) := by
  induction l with
  | nil => intro x hx; cases hx
  | cons y t ih =>
    have ht := fun x hx => hv x (List.mem_cons_of_mem y hx)
    have hy := (hv y (by simp)).n0
    cases hw : y.w with
    | true =>
      have hot : ord true t := by have := ho.2; rwa [hw] at this
      have e : tot false (y :: t) = 0 := by
        rw [tot_cons, hw, if_neg (by decide), tot_true_ord hot]
        rfl
      rw [e, dropL_zero]
      intro x hx
      rcases List.mem_cons.1 hx with rfl | hx
      · exact hw
      · exact ord_true hot x hx
    | false =>
      have t0 : 0 ≤ tot false t := tot_nonneg fun x hx => ⟨(ht x hx).a0, by have := ht x hx; have := this.e1; have := (ht x hx).n0; omega, by have := (ht x hx).n0; omega, (ht x hx).n1⟩
      have e : tot false (y :: t) = y.n + tot false t := by rw [tot_cons, hw, if_pos rfl]
      rw [e, dropL_cons, if_neg (by omega), if_neg (by omega), show y.n + tot false t - y.n = tot false t from by omega]
      exact ih ht (by have := ho.2; rwa [hw] at this)
theorem writes_part {l : List S3} (hb : Buf l) : Writes (partL l true) := by
  have hd := hb.drop (rd l) hb.rd0
  have h1 := sm_split (rd l) l hb.val
  rw [sm_take _ _ hb.val hb.rd0, if_pos (by have := hb.rd_wr; have := hb.wr0; omega)] at h1
  have h2 := hb.rd_wr
  unfold partL
  rw [if_pos rfl, hb.cut, take_all _ _ hd.val (by omega), hb.rd_eq]
  exact writes_drop hb.val hb.ord
theorem wad_part {l : List S3} (hb : Buf l) : wad l = addrs (partL l true) := by
  have h := hb.parts
  have : wad l = wad (partL l false ++ partL l true) := by rw [h]
  rw [this, wad_append, wad_reads (reads_of hb), wad_writes (writes_part hb), List.nil_append]
theorem addrs_append (l r : List S3) : addrs (l ++ r) = addrs l ++ addrs r := by unfold addrs; rw [List.flatMap_append]
theorem addrs_part {l : List S3} (hb : Buf l) : addrs l = addrs (partL l false) ++ addrs (partL l true) := by rw [← addrs_append, hb.parts]
theorem addrs_take (n : Int) (l : List S3) (h : ∀ x ∈ l, x.Val) (n0 : 0 ≤ n) : addrs (takeL n l) = (addrs l).take n.toNat := by
  induction l generalizing n with
  | nil => simp [takeL, addrs]
  | cons y t ih =>
    have hy := (h y (by simp)).n0
    rw [takeL_cons]
    by_cases h1 : n ≤ 0
    · obtain rfl : n = 0 := by omega
      rw [if_pos h1]; rfl
    · rw [if_neg h1]
      by_cases h2 : n < y.n
      · rw [if_pos h2, addrs_cons, addrs_cons, List.take_append_of_le_length (by rw [addr_len]; omega)]
        show addr ⟨y.a, n, y.w⟩ ++ [] = _
        rw [List.append_nil]
        unfold addr
        rw [← List.map_take, List.take_range, Nat.min_eq_left (by omega)]
      · rw [if_neg h2, addrs_cons, addrs_cons, ih _ (fun x hx => h x (by simp [hx])) (by omega), List.take_append, List.take_of_length_le (l := addr y) (by rw [addr_len]; omega), addr_len, show (n - y.n).toNat = n.toNat - y.n.toNat from by omega]

/-- Bytes set one after the other. -/
def upd (G : Nat → Int) (p : Nat) (v : Int) : Nat → Int := fun j => if j = p then v else G j
def setI : (Nat → Int) → List Int → (Nat → Int) → (Nat → Int)
  | G, [], _ => G
  | G, p :: ps, h => setI (upd G p.toNat (h 0)) ps (fun i => h (i + 1))
theorem setI_append (G : Nat → Int) (ps qs : List Int) (h : Nat → Int) : setI G (ps ++ qs) h = setI (setI G ps h) qs (fun i => h (ps.length + i)) := by
  induction ps generalizing G h with
  | nil => simp [setI]
  | cons p ps ih =>
    show setI (upd G p.toNat (h 0)) (ps ++ qs) _ = setI (setI (upd G p.toNat (h 0)) ps _) qs _
    rw [ih]
    congr 1
    funext i
    rw [List.length_cons, show ps.length + 1 + i = ps.length + i + 1 from by omega]
theorem setI_snoc (G : Nat → Int) (ps : List Int) (p : Int) (h : Nat → Int) : setI G (ps ++ [p]) h = upd (setI G ps h) p.toNat (h ps.length) := by rw [setI_append]; rfl
theorem setI_congr {G G' : Nat → Int} (ps : List Int) (h : Nat → Int) {j : Nat} (e : G j = G' j) : setI G ps h j = setI G' ps h j := by
  induction ps generalizing G G' h with
  | nil => exact e
  | cons p ps ih =>
    refine ih _ ?_
    unfold upd
    split
    · rfl
    · exact e
theorem setI_out (G : Nat → Int) (ps : List Int) (h : Nat → Int) {j : Nat} (hj : ∀ p ∈ ps, p.toNat ≠ j) : setI G ps h j = G j := by
  induction ps generalizing G h with
  | nil => rfl
  | cons p ps ih =>
    show setI (upd G p.toNat (h 0)) ps _ j = _
    rw [ih _ _ (fun q hq => hj q (by simp [hq]))]
    unfold upd
    rw [if_neg (fun e => hj p (by simp) e.symm)]
theorem setI_get (G : Nat → Int) (ps : List Int) (h : Nat → Int) (hn : ps.Nodup) (h0 : ∀ p ∈ ps, 0 ≤ p) : ∀ i (hi : i < ps.length), setI G ps h ps[i].toNat = h i := by
  induction ps generalizing G h with
  | nil => intro i hi; simp at hi
  | cons p ps ih =>
    intro i hi
    obtain ⟨hn1, hn2⟩ := List.nodup_cons.1 hn
    cases i with
    | zero =>
      show setI (upd G p.toNat (h 0)) ps _ p.toNat = h 0
      rw [setI_out]
      · unfold upd; rw [if_pos rfl]
      · intro q hq e
        have h1 := h0 q (by simp [hq])
        have h2 := h0 p (by simp)
        have : q = p := by omega
        exact hn1 (this ▸ hq)
    | succ i =>
      exact ih _ (fun i => h (i + 1)) hn2 (fun q hq => h0 q (by simp [hq])) i (by simpa using hi)

theorem wr_set (G : Nat → Int) (a : Int) (ha : 0 ≤ a) (n : Nat) (g : Nat → Int) : wrF (fun j => .int .u8 (G j)) a.toNat n g = fun j => .int .u8 (setI G ((List.range n).map fun j => a + (j : Nat)) g j) := by
  induction n with
  | zero =>
    funext j
    unfold wrF
    rw [if_neg (by omega)]
    rfl
  | succ n ih =>
    rw [List.range_succ, List.map_append, List.map_singleton, setI_snoc]
    funext j
    have := congrFun ih j
    unfold wrF at this ⊢
    unfold upd
    rw [List.length_map, List.length_range]
    by_cases hj : j = (a + (n : Nat)).toNat
    · rw [if_pos hj, if_pos (by omega)]
      congr 2
      omega
    · rw [if_neg hj]
      by_cases h2 : a.toNat ≤ j ∧ j < a.toNat + n
      · rw [if_pos h2] at this
        rw [if_pos (by omega), this]
      · rw [if_neg h2] at this
        rw [if_neg (by omega), this]
theorem place1 {n : Nat} {x : S3} (h : (place (GmOne.oneM 0 n) 1 x.a x.n).isSome = true) : place (GmOne.oneM 0 n) 1 x.a x.n = some x.a.toNat ∧ 0 ≤ x.a ∧ 1 ≤ x.n ∧ x.a + x.n ≤ n := by
  rw [GmOne.place_one] at h ⊢
  by_cases hc : 0 ≤ x.a ∧ 1 ≤ x.n ∧ x.a + x.n ≤ 0 + n
  · rw [if_pos hc, Int.sub_zero]
    exact ⟨rfl, hc.1, hc.2.1, by omega⟩
  · rw [if_neg hc] at h
    cases h
theorem sc_set {n : Nat} (gb : Nat → Int) (q : Nat) (T : List S3) (G : Nat → Int) (hi : allIn (GmOne.oneM 0 n) 1 T = true) : scF (GmOne.oneM 0 n) 1 gb q T (fun j => .int .u8 (G j)) = fun j => .int .u8 (setI G (addrs T) (fun i => gb (q + i)) j) := by
  induction T generalizing q G with
  | nil => rfl
  | cons x T ih =>
    rw [allIn_cons, Bool.and_eq_true] at hi
    obtain ⟨e1, e2, e3, e4⟩ := place1 hi.1
    rw [scF_cons, e1, Option.getD_some, wr_set _ _ e2, ih _ _ hi.2, addrs_cons]
    funext j
    rw [setI_append]
    unfold addr
    rw [List.length_map, List.length_range]
    congr 3
    funext i
    rw [Nat.add_assoc]
theorem addrs_in {n : Nat} {l : List S3} (hi : allIn (GmOne.oneM 0 n) 1 l = true) : ∀ p ∈ addrs l, 0 ≤ p ∧ p < n := by
  induction l with
  | nil => intro p hp; cases hp
  | cons x l ih =>
    rw [allIn_cons, Bool.and_eq_true] at hi
    obtain ⟨e1, e2, e3, e4⟩ := place1 hi.1
    intro p hp
    rw [addrs_cons] at hp
    rcases List.mem_append.1 hp with hp | hp
    · obtain ⟨j, hj, rfl⟩ := List.mem_map.1 hp
      have := List.mem_range.1 hj
      omega
    · exact ih hi.2 p hp
theorem ga_addrs {n : Nat} (g : Nat → Int) (l : List S3) (hi : allIn (GmOne.oneM 0 n) 1 l = true) : gaL (GmOne.oneM 0 n) 1 g l = (addrs l).map fun p => g p.toNat := by
  induction l with
  | nil => rfl
  | cons x l ih =>
    rw [allIn_cons, Bool.and_eq_true] at hi
    obtain ⟨e1, e2, e3, e4⟩ := place1 hi.1
    rw [gaL_cons, addrs_cons, List.map_append, ih hi.2]
    congr 1
    unfold segBytes addr
    rw [e1, Option.getD_some, List.map_map]
    refine List.map_congr_left fun j _ => ?_
    simp only [Function.comp_apply]
    congr 1
    omega

/-- The same segments, to be read. -/
def rdd (l : List S3) : List S3 := l.map fun x => ⟨x.a, x.n, false⟩
theorem rdd_addrs (l : List S3) : addrs (rdd l) = addrs l := by
  unfold addrs rdd
  rw [List.flatMap_map]
  rfl
theorem rdd_reads (l : List S3) : Reads (rdd l) := by
  intro x hx
  obtain ⟨y, _, rfl⟩ := List.mem_map.1 hx
  rfl
theorem reads_ord {l : List S3} (h : Reads l) : ord false l := by
  induction l with
  | nil => trivial
  | cons x l ih => exact ⟨fun e => (absurd e (by decide)), by rw [h x (by simp)]; exact ih (fun y hy => h y (by simp [hy]))⟩
theorem rdd_sm (l : List S3) : sm (rdd l) = sm l := by
  induction l with
  | nil => rfl
  | cons x l ih => show sm (⟨x.a, x.n, false⟩ :: rdd l) = _; rw [sm_cons, sm_cons, ih]
theorem rdd_buf {l : List S3} (h : Buf l) : Buf (rdd l) :=
  ⟨fun x hx => by
    obtain ⟨y, hy, rfl⟩ := List.mem_map.1 hx
    obtain ⟨h1, h2, h3, h4⟩ := h.val y hy
    exact ⟨h1, h2, h3, h4⟩, reads_ord (rdd_reads l), by have := h.len; simpa [rdd] using this, by rw [rdd_sm]; exact h.sum⟩
theorem rdd_in {r : Rg} {k : Nat} {l : List S3} (h : allIn r k l = true) : allIn r k (rdd l) = true := by
  unfold allIn rdd at *
  rw [List.all_map]
  exact h

end Go.Proofs.Ytohopmccggggbaa.SgSeq
