/- The law SerialCalls: results on indexes and positions are what the document says. For every input; no condition. -/
import Derived.Test.YtgabbefghabcaaaSerAll
import Derived.Test.YtgabbefghabcaaaHeld
import Derived.Test.YtgabbefghabcaaaPos
namespace Go.Proofs.Ytgabbefghabcaaa.SerialCalls
open Go.ChangeShapes Go.WideShapes Go.ChangeAt Go.RowKit Ser Go.BigFrame
set_option linter.unusedVariables false
set_option linter.unusedSimpArgs false

set_option maxRecDepth 100000 in
set_option maxHeartbeats 2000000 in
theorem walk (a b c pa : Int) (pb : Bool) (qa : Int) (qb : Bool) (m n u t : Int) (w0 : (Lit.int .u16 a).wf = true) (w1 : (Lit.int .u16 b).wf = true) (w2 : (Lit.int .u16 c).wf = true)
    (w3 : (Lit.int .i64 pa).wf = true) (w4 : (Lit.int .i64 qa).wf = true) (w5 : (Lit.int .i64 m).wf = true) (w6 : (Lit.int .i64 n).wf = true) (w7 : (Lit.int .u64 u).wf = true) (w8 : (Lit.int .u64 t).wf = true) (w : World) :
    Calls Try.prog 4 #[word a, word b, word c, posV pa pb, posV qa qb, num m, num n, u64 u, u64 t] w (Lib.True1 w.heap.size w) := by
  unfold Lib.True1
  have hb0 : Below w.heap.size w w := Below.refl _ _
  have ha := bounds_u16 w0
  have hu : u64in u := bounds_u64 w7
  have ht : u64in t := bounds_u64 w8
  clear w0 w1 w2 w3 w4 w5 w6 w7 w8
  obtain ⟨pd, hpd⟩ : ∃ x, passed a b c = x := ⟨_, rfl⟩
  obtain ⟨ck, hck⟩ : ∃ x, checkR pa n = x := ⟨_, rfl⟩
  obtain ⟨pw, hpw⟩ : ∃ x, powB n = x := ⟨_, rfl⟩
  obtain ⟨wd, hwd⟩ : ∃ x, SerBits.wordI pa pb = x := ⟨_, rfl⟩
  obtain ⟨⟨gx, gb, ge⟩, hg⟩ : ∃ x, goR pa m n pb = x := ⟨_, rfl⟩
  obtain ⟨⟨rx, rb, re⟩, hr⟩ : ∃ x, readR a n = x := ⟨_, rfl⟩
  obtain ⟨⟨nx, ne⟩, hn⟩ : ∃ x, needatR pa qa m n pb qb = x := ⟨_, rfl⟩
  obtain ⟨⟨bx, be⟩, hbt⟩ : ∃ x, betweenR pa qa n pb qb = x := ⟨_, rfl⟩
  obtain ⟨⟨ax, ae⟩, hal⟩ : ∃ x, alignAll u t = x := ⟨_, rfl⟩
  have Hpd := Lib.hid hpd
  have Hck := Lib.hid hck
  have Hpw := Lib.hid hpw
  have Hwd := Lib.hid hwd
  have Hg := Lib.hid hg
  have Hr := Lib.hid hr
  have Hn := Lib.hid hn
  have Hb := Lib.hid hbt
  have Ha := Lib.hid hal
  have HA := Lib.hid ha
  clear hpd hck hpw hwd hg hr hn hbt hal ha
  go_enter Try.func4, Try.ntmps4
  go_wp2_with fail
  refine (lives_any _).mono ?_
  rintro e W1 ⟨rfl, hg1⟩
  have hb1 : Below w.heap.size w W1 := (show Below w.heap.size w _ by go_grown).trans (hg1.mono (by go_size))
  obtain ⟨hc1, hf1⟩ := bcell hg1
  have hs1 := hg1.size
  try simp only [World.size_alloc, World.size_setCell, World.size_drew] at hs1
  have hl1_0_0 : W1.cell? ⟨w.heap.size, 0, none⟩ = some (num pa) := (hc1 _ _ (by go_size)).trans (by go_cell)
  have hz1_0_0 : W1.frozen? ⟨w.heap.size, 0, none⟩ = false := (hf1 _ _ (by go_size)).trans (by first | (go_simp; done) | (simp [*]; done))
  have hl1_0_1 : W1.cell? ⟨w.heap.size, 1, none⟩ = some (.bool pb) := (hc1 _ _ (by go_size)).trans (by go_cell)
  have hz1_0_1 : W1.frozen? ⟨w.heap.size, 1, none⟩ = false := (hf1 _ _ (by go_size)).trans (by first | (go_simp; done) | (simp [*]; done))
  have hk1_0 : w.heap.size < W1.heap.size := by omega
  have hl1_1_0 : W1.cell? ⟨w.heap.size + 1, 0, none⟩ = some (num qa) := (hc1 _ _ (by go_size)).trans (by go_cell)
  have hz1_1_0 : W1.frozen? ⟨w.heap.size + 1, 0, none⟩ = false := (hf1 _ _ (by go_size)).trans (by first | (go_simp; done) | (simp [*]; done))
  have hl1_1_1 : W1.cell? ⟨w.heap.size + 1, 1, none⟩ = some (.bool qb) := (hc1 _ _ (by go_size)).trans (by go_cell)
  have hz1_1_1 : W1.frozen? ⟨w.heap.size + 1, 1, none⟩ = false := (hf1 _ _ (by go_size)).trans (by first | (go_simp; done) | (simp [*]; done))
  have hk1_1 : w.heap.size + 1 < W1.heap.size := by omega
  clear hg1 hc1 hf1
  go_wp2_with fail
  refine Lib.wp_region_class (Lib.Held w [(w.heap.size, 0, (num pa : Value)), (w.heap.size, 1, (.bool pb : Value)), (w.heap.size + 1, 0, (num qa : Value)), (w.heap.size + 1, 1, (.bool qb : Value))]) (by kernel_rfl) (by kernel_rfl) ⟨by go_grown, ⟨by first | omega | go_size, by first | go_cell | (simp [*]; done), by first | (go_simp; done) | (simp [*]; done)⟩, ⟨by first | omega | go_size, by first | go_cell | (simp [*]; done), by first | (go_simp; done) | (simp [*]; done)⟩, ⟨by first | omega | go_size, by first | go_cell | (simp [*]; done), by first | (go_simp; done) | (simp [*]; done)⟩, ⟨by first | omega | go_size, by first | go_cell | (simp [*]; done), by first | (go_simp; done) | (simp [*]; done)⟩, trivial⟩ ?_
  repeat (first | go_big_quiet_step ((intro hq; first | rfl | (go_at_call 16; exact Lib.Held.same hq (s_dist a b _)) | (go_at_call 17; exact Lib.Held.same hq (r_dist a b _)) | (go_at_call 18; exact Lib.Held.same hq (s_need_is a b c pd Hpd.out _)) | (go_at_call 19; exact Lib.Held.same hq (r_need_is a b c pd Hpd.out _)) | (go_at_call 20; exact Lib.Held.call hq (s_check_is pa n ck pb Hck.out _)) | (go_at_call 21; exact Lib.Held.call hq (r_check_is pa n ck pb Hck.out _)) | (go_at_call 22; exact Lib.Held.call hq (s_word_is pa wd pb Hwd.out _)) | (go_at_call 23; exact Lib.Held.call hq (r_word_is pa wd pb Hwd.out _)) | (go_at_call 15; exact Lib.Held.same hq (s_power_is n pw Hpw.out _)) | (go_at_call 24; exact Lib.Held.same hq (r_power_is n pw Hpw.out _)) | (have hq' := hq; obtain ⟨hbq, ⟨hkq_0, hlq_0, hzq_0⟩, ⟨hkq_1, hlq_1, hzq_1⟩, ⟨hkq_2, hlq_2, hzq_2⟩, ⟨hkq_3, hlq_3, hzq_3⟩, _⟩ := hq'; go_simp; rfl))) | quiet_step ((intro hq; first | rfl | (go_at_call 16; exact Lib.Held.same hq (s_dist a b _)) | (go_at_call 17; exact Lib.Held.same hq (r_dist a b _)) | (go_at_call 18; exact Lib.Held.same hq (s_need_is a b c pd Hpd.out _)) | (go_at_call 19; exact Lib.Held.same hq (r_need_is a b c pd Hpd.out _)) | (go_at_call 20; exact Lib.Held.call hq (s_check_is pa n ck pb Hck.out _)) | (go_at_call 21; exact Lib.Held.call hq (r_check_is pa n ck pb Hck.out _)) | (go_at_call 22; exact Lib.Held.call hq (s_word_is pa wd pb Hwd.out _)) | (go_at_call 23; exact Lib.Held.call hq (r_word_is pa wd pb Hwd.out _)) | (go_at_call 15; exact Lib.Held.same hq (s_power_is n pw Hpw.out _)) | (go_at_call 24; exact Lib.Held.same hq (r_power_is n pw Hpw.out _)) | (have hq' := hq; obtain ⟨hbq, ⟨hkq_0, hlq_0, hzq_0⟩, ⟨hkq_1, hlq_1, hzq_1⟩, ⟨hkq_2, hlq_2, hzq_2⟩, ⟨hkq_3, hlq_3, hzq_3⟩, _⟩ := hq'; go_simp; rfl))))
  refine wpQuiet_nil ?_
  intro W2 hq2
  obtain ⟨hb2, ⟨hk2_0, hl2_0, hz2_0⟩, ⟨hk2_1, hl2_1, hz2_1⟩, ⟨hk2_2, hl2_2, hz2_2⟩, ⟨hk2_3, hl2_3, hz2_3⟩, _⟩ := hq2
  go_wp2_with fail
  refine (s_go_all pa m n gx ge pb gb Hg.out _).mono ?_
  rintro e W3 ⟨rfl, hg3⟩
  have hb3 : Below w.heap.size w W3 := (show Below w.heap.size w _ by go_grown).trans (hg3.mono (by go_size))
  obtain ⟨hc3, hf3⟩ := bcell hg3
  have hs3 := hg3.size
  try simp only [World.size_alloc, World.size_setCell, World.size_drew] at hs3
  have hl3_0_0 : W3.cell? ⟨w.heap.size, 0, none⟩ = some (num pa) := (hc3 _ _ (by go_size)).trans (by go_cell)
  have hz3_0_0 : W3.frozen? ⟨w.heap.size, 0, none⟩ = false := (hf3 _ _ (by go_size)).trans (by first | (go_simp; done) | (simp [*]; done))
  have hl3_0_1 : W3.cell? ⟨w.heap.size, 1, none⟩ = some (.bool pb) := (hc3 _ _ (by go_size)).trans (by go_cell)
  have hz3_0_1 : W3.frozen? ⟨w.heap.size, 1, none⟩ = false := (hf3 _ _ (by go_size)).trans (by first | (go_simp; done) | (simp [*]; done))
  have hk3_0 : w.heap.size < W3.heap.size := by omega
  have hl3_1_0 : W3.cell? ⟨w.heap.size + 1, 0, none⟩ = some (num qa) := (hc3 _ _ (by go_size)).trans (by go_cell)
  have hz3_1_0 : W3.frozen? ⟨w.heap.size + 1, 0, none⟩ = false := (hf3 _ _ (by go_size)).trans (by first | (go_simp; done) | (simp [*]; done))
  have hl3_1_1 : W3.cell? ⟨w.heap.size + 1, 1, none⟩ = some (.bool qb) := (hc3 _ _ (by go_size)).trans (by go_cell)
  have hz3_1_1 : W3.frozen? ⟨w.heap.size + 1, 1, none⟩ = false := (hf3 _ _ (by go_size)).trans (by first | (go_simp; done) | (simp [*]; done))
  have hk3_1 : w.heap.size + 1 < W3.heap.size := by omega
  clear hg3 hc3 hf3
  go_wp2_with fail
  refine (r_go_all pa m n gx ge pb gb Hg.out _).mono ?_
  rintro e W4 ⟨rfl, hg4⟩
  have hb4 : Below w.heap.size w W4 := (show Below w.heap.size w _ by go_grown).trans (hg4.mono (by go_size))
  obtain ⟨hc4, hf4⟩ := bcell hg4
  have hs4 := hg4.size
  try simp only [World.size_alloc, World.size_setCell, World.size_drew] at hs4
  have hl4_0_0 : W4.cell? ⟨w.heap.size, 0, none⟩ = some (num pa) := (hc4 _ _ (by go_size)).trans (by go_cell)
  have hz4_0_0 : W4.frozen? ⟨w.heap.size, 0, none⟩ = false := (hf4 _ _ (by go_size)).trans (by first | (go_simp; done) | (simp [*]; done))
  have hl4_0_1 : W4.cell? ⟨w.heap.size, 1, none⟩ = some (.bool pb) := (hc4 _ _ (by go_size)).trans (by go_cell)
  have hz4_0_1 : W4.frozen? ⟨w.heap.size, 1, none⟩ = false := (hf4 _ _ (by go_size)).trans (by first | (go_simp; done) | (simp [*]; done))
  have hk4_0 : w.heap.size < W4.heap.size := by omega
  have hl4_1_0 : W4.cell? ⟨w.heap.size + 1, 0, none⟩ = some (num qa) := (hc4 _ _ (by go_size)).trans (by go_cell)
  have hz4_1_0 : W4.frozen? ⟨w.heap.size + 1, 0, none⟩ = false := (hf4 _ _ (by go_size)).trans (by first | (go_simp; done) | (simp [*]; done))
  have hl4_1_1 : W4.cell? ⟨w.heap.size + 1, 1, none⟩ = some (.bool qb) := (hc4 _ _ (by go_size)).trans (by go_cell)
  have hz4_1_1 : W4.frozen? ⟨w.heap.size + 1, 1, none⟩ = false := (hf4 _ _ (by go_size)).trans (by first | (go_simp; done) | (simp [*]; done))
  have hk4_1 : w.heap.size + 1 < W4.heap.size := by omega
  have hl4_2_0 : W4.cell? ⟨W3.heap.size, 0, none⟩ = some (num gx) := (hc4 _ _ (by go_size)).trans (by go_cell)
  have hz4_2_0 : W4.frozen? ⟨W3.heap.size, 0, none⟩ = false := (hf4 _ _ (by go_size)).trans (by first | (go_simp; done) | (simp [*]; done))
  have hl4_2_1 : W4.cell? ⟨W3.heap.size, 1, none⟩ = some (.bool gb) := (hc4 _ _ (by go_size)).trans (by go_cell)
  have hz4_2_1 : W4.frozen? ⟨W3.heap.size, 1, none⟩ = false := (hf4 _ _ (by go_size)).trans (by first | (go_simp; done) | (simp [*]; done))
  have hk4_2 : W3.heap.size < W4.heap.size := by omega
  clear hg4 hc4 hf4
  go_wp2_with fail
  refine (s_read_all a n rx re rb HA.out Hr.out _).mono ?_
  rintro e W5 ⟨rfl, hg5⟩
  have hb5 : Below w.heap.size w W5 := (show Below w.heap.size w _ by go_grown).trans (hg5.mono (by go_size))
  obtain ⟨hc5, hf5⟩ := bcell hg5
  have hs5 := hg5.size
  try simp only [World.size_alloc, World.size_setCell, World.size_drew] at hs5
  have hl5_0_0 : W5.cell? ⟨w.heap.size, 0, none⟩ = some (num pa) := (hc5 _ _ (by go_size)).trans (by go_cell)
  have hz5_0_0 : W5.frozen? ⟨w.heap.size, 0, none⟩ = false := (hf5 _ _ (by go_size)).trans (by first | (go_simp; done) | (simp [*]; done))
  have hl5_0_1 : W5.cell? ⟨w.heap.size, 1, none⟩ = some (.bool pb) := (hc5 _ _ (by go_size)).trans (by go_cell)
  have hz5_0_1 : W5.frozen? ⟨w.heap.size, 1, none⟩ = false := (hf5 _ _ (by go_size)).trans (by first | (go_simp; done) | (simp [*]; done))
  have hk5_0 : w.heap.size < W5.heap.size := by omega
  have hl5_1_0 : W5.cell? ⟨w.heap.size + 1, 0, none⟩ = some (num qa) := (hc5 _ _ (by go_size)).trans (by go_cell)
  have hz5_1_0 : W5.frozen? ⟨w.heap.size + 1, 0, none⟩ = false := (hf5 _ _ (by go_size)).trans (by first | (go_simp; done) | (simp [*]; done))
  have hl5_1_1 : W5.cell? ⟨w.heap.size + 1, 1, none⟩ = some (.bool qb) := (hc5 _ _ (by go_size)).trans (by go_cell)
  have hz5_1_1 : W5.frozen? ⟨w.heap.size + 1, 1, none⟩ = false := (hf5 _ _ (by go_size)).trans (by first | (go_simp; done) | (simp [*]; done))
  have hk5_1 : w.heap.size + 1 < W5.heap.size := by omega
  have hl5_2_0 : W5.cell? ⟨W3.heap.size, 0, none⟩ = some (num gx) := (hc5 _ _ (by go_size)).trans (by go_cell)
  have hz5_2_0 : W5.frozen? ⟨W3.heap.size, 0, none⟩ = false := (hf5 _ _ (by go_size)).trans (by first | (go_simp; done) | (simp [*]; done))
  have hl5_2_1 : W5.cell? ⟨W3.heap.size, 1, none⟩ = some (.bool gb) := (hc5 _ _ (by go_size)).trans (by go_cell)
  have hz5_2_1 : W5.frozen? ⟨W3.heap.size, 1, none⟩ = false := (hf5 _ _ (by go_size)).trans (by first | (go_simp; done) | (simp [*]; done))
  have hk5_2 : W3.heap.size < W5.heap.size := by omega
  have hl5_3_0 : W5.cell? ⟨W4.heap.size, 0, none⟩ = some (num gx) := (hc5 _ _ (by go_size)).trans (by go_cell)
  have hz5_3_0 : W5.frozen? ⟨W4.heap.size, 0, none⟩ = false := (hf5 _ _ (by go_size)).trans (by first | (go_simp; done) | (simp [*]; done))
  have hl5_3_1 : W5.cell? ⟨W4.heap.size, 1, none⟩ = some (.bool gb) := (hc5 _ _ (by go_size)).trans (by go_cell)
  have hz5_3_1 : W5.frozen? ⟨W4.heap.size, 1, none⟩ = false := (hf5 _ _ (by go_size)).trans (by first | (go_simp; done) | (simp [*]; done))
  have hk5_3 : W4.heap.size < W5.heap.size := by omega
  clear hg5 hc5 hf5
  go_wp2_with fail
  refine (r_read_all a n rx re rb HA.out Hr.out _).mono ?_
  rintro e W6 ⟨rfl, hg6⟩
  have hb6 : Below w.heap.size w W6 := (show Below w.heap.size w _ by go_grown).trans (hg6.mono (by go_size))
  obtain ⟨hc6, hf6⟩ := bcell hg6
  have hs6 := hg6.size
  try simp only [World.size_alloc, World.size_setCell, World.size_drew] at hs6
  have hl6_0_0 : W6.cell? ⟨w.heap.size, 0, none⟩ = some (num pa) := (hc6 _ _ (by go_size)).trans (by go_cell)
  have hz6_0_0 : W6.frozen? ⟨w.heap.size, 0, none⟩ = false := (hf6 _ _ (by go_size)).trans (by first | (go_simp; done) | (simp [*]; done))
  have hl6_0_1 : W6.cell? ⟨w.heap.size, 1, none⟩ = some (.bool pb) := (hc6 _ _ (by go_size)).trans (by go_cell)
  have hz6_0_1 : W6.frozen? ⟨w.heap.size, 1, none⟩ = false := (hf6 _ _ (by go_size)).trans (by first | (go_simp; done) | (simp [*]; done))
  have hk6_0 : w.heap.size < W6.heap.size := by omega
  have hl6_1_0 : W6.cell? ⟨w.heap.size + 1, 0, none⟩ = some (num qa) := (hc6 _ _ (by go_size)).trans (by go_cell)
  have hz6_1_0 : W6.frozen? ⟨w.heap.size + 1, 0, none⟩ = false := (hf6 _ _ (by go_size)).trans (by first | (go_simp; done) | (simp [*]; done))
  have hl6_1_1 : W6.cell? ⟨w.heap.size + 1, 1, none⟩ = some (.bool qb) := (hc6 _ _ (by go_size)).trans (by go_cell)
  have hz6_1_1 : W6.frozen? ⟨w.heap.size + 1, 1, none⟩ = false := (hf6 _ _ (by go_size)).trans (by first | (go_simp; done) | (simp [*]; done))
  have hk6_1 : w.heap.size + 1 < W6.heap.size := by omega
  have hl6_2_0 : W6.cell? ⟨W3.heap.size, 0, none⟩ = some (num gx) := (hc6 _ _ (by go_size)).trans (by go_cell)
  have hz6_2_0 : W6.frozen? ⟨W3.heap.size, 0, none⟩ = false := (hf6 _ _ (by go_size)).trans (by first | (go_simp; done) | (simp [*]; done))
  have hl6_2_1 : W6.cell? ⟨W3.heap.size, 1, none⟩ = some (.bool gb) := (hc6 _ _ (by go_size)).trans (by go_cell)
  have hz6_2_1 : W6.frozen? ⟨W3.heap.size, 1, none⟩ = false := (hf6 _ _ (by go_size)).trans (by first | (go_simp; done) | (simp [*]; done))
  have hk6_2 : W3.heap.size < W6.heap.size := by omega
  have hl6_3_0 : W6.cell? ⟨W4.heap.size, 0, none⟩ = some (num gx) := (hc6 _ _ (by go_size)).trans (by go_cell)
  have hz6_3_0 : W6.frozen? ⟨W4.heap.size, 0, none⟩ = false := (hf6 _ _ (by go_size)).trans (by first | (go_simp; done) | (simp [*]; done))
  have hl6_3_1 : W6.cell? ⟨W4.heap.size, 1, none⟩ = some (.bool gb) := (hc6 _ _ (by go_size)).trans (by go_cell)
  have hz6_3_1 : W6.frozen? ⟨W4.heap.size, 1, none⟩ = false := (hf6 _ _ (by go_size)).trans (by first | (go_simp; done) | (simp [*]; done))
  have hk6_3 : W4.heap.size < W6.heap.size := by omega
  have hl6_4_0 : W6.cell? ⟨W5.heap.size, 0, none⟩ = some (num rx) := (hc6 _ _ (by go_size)).trans (by go_cell)
  have hz6_4_0 : W6.frozen? ⟨W5.heap.size, 0, none⟩ = false := (hf6 _ _ (by go_size)).trans (by first | (go_simp; done) | (simp [*]; done))
  have hl6_4_1 : W6.cell? ⟨W5.heap.size, 1, none⟩ = some (.bool rb) := (hc6 _ _ (by go_size)).trans (by go_cell)
  have hz6_4_1 : W6.frozen? ⟨W5.heap.size, 1, none⟩ = false := (hf6 _ _ (by go_size)).trans (by first | (go_simp; done) | (simp [*]; done))
  have hk6_4 : W5.heap.size < W6.heap.size := by omega
  clear hg6 hc6 hf6
  go_wp2_with fail
  refine (s_needat_all pa qa m n ne pb qb nx Hn.out _).mono ?_
  rintro e W7 ⟨rfl, hg7⟩
  have hb7 : Below w.heap.size w W7 := (show Below w.heap.size w _ by go_grown).trans (hg7.mono (by go_size))
  obtain ⟨hc7, hf7⟩ := bcell hg7
  have hs7 := hg7.size
  try simp only [World.size_alloc, World.size_setCell, World.size_drew] at hs7
  have hl7_0_0 : W7.cell? ⟨w.heap.size, 0, none⟩ = some (num pa) := (hc7 _ _ (by go_size)).trans (by go_cell)
  have hz7_0_0 : W7.frozen? ⟨w.heap.size, 0, none⟩ = false := (hf7 _ _ (by go_size)).trans (by first | (go_simp; done) | (simp [*]; done))
  have hl7_0_1 : W7.cell? ⟨w.heap.size, 1, none⟩ = some (.bool pb) := (hc7 _ _ (by go_size)).trans (by go_cell)
  have hz7_0_1 : W7.frozen? ⟨w.heap.size, 1, none⟩ = false := (hf7 _ _ (by go_size)).trans (by first | (go_simp; done) | (simp [*]; done))
  have hk7_0 : w.heap.size < W7.heap.size := by omega
  have hl7_1_0 : W7.cell? ⟨w.heap.size + 1, 0, none⟩ = some (num qa) := (hc7 _ _ (by go_size)).trans (by go_cell)
  have hz7_1_0 : W7.frozen? ⟨w.heap.size + 1, 0, none⟩ = false := (hf7 _ _ (by go_size)).trans (by first | (go_simp; done) | (simp [*]; done))
  have hl7_1_1 : W7.cell? ⟨w.heap.size + 1, 1, none⟩ = some (.bool qb) := (hc7 _ _ (by go_size)).trans (by go_cell)
  have hz7_1_1 : W7.frozen? ⟨w.heap.size + 1, 1, none⟩ = false := (hf7 _ _ (by go_size)).trans (by first | (go_simp; done) | (simp [*]; done))
  have hk7_1 : w.heap.size + 1 < W7.heap.size := by omega
  clear hg7 hc7 hf7
  go_wp2_with fail
  refine (r_needat_all pa qa m n ne pb qb nx Hn.out _).mono ?_
  rintro e W8 ⟨rfl, hg8⟩
  have hb8 : Below w.heap.size w W8 := (show Below w.heap.size w _ by go_grown).trans (hg8.mono (by go_size))
  obtain ⟨hc8, hf8⟩ := bcell hg8
  have hs8 := hg8.size
  try simp only [World.size_alloc, World.size_setCell, World.size_drew] at hs8
  have hl8_0_0 : W8.cell? ⟨w.heap.size, 0, none⟩ = some (num pa) := (hc8 _ _ (by go_size)).trans (by go_cell)
  have hz8_0_0 : W8.frozen? ⟨w.heap.size, 0, none⟩ = false := (hf8 _ _ (by go_size)).trans (by first | (go_simp; done) | (simp [*]; done))
  have hl8_0_1 : W8.cell? ⟨w.heap.size, 1, none⟩ = some (.bool pb) := (hc8 _ _ (by go_size)).trans (by go_cell)
  have hz8_0_1 : W8.frozen? ⟨w.heap.size, 1, none⟩ = false := (hf8 _ _ (by go_size)).trans (by first | (go_simp; done) | (simp [*]; done))
  have hk8_0 : w.heap.size < W8.heap.size := by omega
  have hl8_1_0 : W8.cell? ⟨w.heap.size + 1, 0, none⟩ = some (num qa) := (hc8 _ _ (by go_size)).trans (by go_cell)
  have hz8_1_0 : W8.frozen? ⟨w.heap.size + 1, 0, none⟩ = false := (hf8 _ _ (by go_size)).trans (by first | (go_simp; done) | (simp [*]; done))
  have hl8_1_1 : W8.cell? ⟨w.heap.size + 1, 1, none⟩ = some (.bool qb) := (hc8 _ _ (by go_size)).trans (by go_cell)
  have hz8_1_1 : W8.frozen? ⟨w.heap.size + 1, 1, none⟩ = false := (hf8 _ _ (by go_size)).trans (by first | (go_simp; done) | (simp [*]; done))
  have hk8_1 : w.heap.size + 1 < W8.heap.size := by omega
  clear hg8 hc8 hf8
  go_wp2_with fail
  refine (s_between_all pa qa n bx be pb qb Hb.out _).mono ?_
  rintro e W9 ⟨rfl, hg9⟩
  have hb9 : Below w.heap.size w W9 := (show Below w.heap.size w _ by go_grown).trans (hg9.mono (by go_size))
  obtain ⟨hc9, hf9⟩ := bcell hg9
  have hs9 := hg9.size
  try simp only [World.size_alloc, World.size_setCell, World.size_drew] at hs9
  have hl9_0_0 : W9.cell? ⟨w.heap.size, 0, none⟩ = some (num pa) := (hc9 _ _ (by go_size)).trans (by go_cell)
  have hz9_0_0 : W9.frozen? ⟨w.heap.size, 0, none⟩ = false := (hf9 _ _ (by go_size)).trans (by first | (go_simp; done) | (simp [*]; done))
  have hl9_0_1 : W9.cell? ⟨w.heap.size, 1, none⟩ = some (.bool pb) := (hc9 _ _ (by go_size)).trans (by go_cell)
  have hz9_0_1 : W9.frozen? ⟨w.heap.size, 1, none⟩ = false := (hf9 _ _ (by go_size)).trans (by first | (go_simp; done) | (simp [*]; done))
  have hk9_0 : w.heap.size < W9.heap.size := by omega
  have hl9_1_0 : W9.cell? ⟨w.heap.size + 1, 0, none⟩ = some (num qa) := (hc9 _ _ (by go_size)).trans (by go_cell)
  have hz9_1_0 : W9.frozen? ⟨w.heap.size + 1, 0, none⟩ = false := (hf9 _ _ (by go_size)).trans (by first | (go_simp; done) | (simp [*]; done))
  have hl9_1_1 : W9.cell? ⟨w.heap.size + 1, 1, none⟩ = some (.bool qb) := (hc9 _ _ (by go_size)).trans (by go_cell)
  have hz9_1_1 : W9.frozen? ⟨w.heap.size + 1, 1, none⟩ = false := (hf9 _ _ (by go_size)).trans (by first | (go_simp; done) | (simp [*]; done))
  have hk9_1 : w.heap.size + 1 < W9.heap.size := by omega
  clear hg9 hc9 hf9
  go_wp2_with fail
  refine (r_between_all pa qa n bx be pb qb Hb.out _).mono ?_
  rintro e W10 ⟨rfl, hg10⟩
  have hb10 : Below w.heap.size w W10 := (show Below w.heap.size w _ by go_grown).trans (hg10.mono (by go_size))
  obtain ⟨hc10, hf10⟩ := bcell hg10
  have hs10 := hg10.size
  try simp only [World.size_alloc, World.size_setCell, World.size_drew] at hs10
  clear hg10 hc10 hf10
  go_wp2_with fail
  refine (s_align_all u t ax ae hu ht Ha.out _).mono ?_
  rintro e w' ⟨rfl, rfl⟩
  go_wp2_with fail
  refine (r_align_all u t ax ae hu ht Ha.out _).mono ?_
  rintro e w' ⟨rfl, rfl⟩
  go_wp2_with fail
  go_ret
  exact ⟨rfl, by go_grown⟩

set_option maxRecDepth 100000 in
theorem lifted (os : Os) (started : os.Started) (H : Type) (enc : TypeId × Value → H) :
    ReturnsInHanded {} Try.checked os 4 .any (Rows.serialCallsSpec.pre6 enc Try.prog Try.f4 Rows.serialCallsRow.domain false) (Rows.serialCallsSpec.post enc Try.prog Try.f4 false true false false) := by
  refine Lib.lifted (C := Try.checked) (tb := 4) H enc Lib.own started (by kernel_rfl) Try.func4
    (ChangeSpec.witness6 (enc := enc) (C := Try.checked) false ⟨#[], #[.int .u16 0, .int .u16 0, .int .u16 0, .agg #[.int .i64 0, .bool false], .agg #[.int .i64 0, .bool false], .int .i64 0, .int .i64 0, .int .u64 0, .int .u64 0], []⟩ 8 (by kernel_rfl) (by kernel_rfl) (by kernel_rfl) (by kernel_rfl))
    Lib.laidOut (Lib.readable_of (by kernel_rfl)) rfl Try.underlying4 rfl ?_ ?_
  · intro ds h
    match ds, h with
    | [_, _, _, _, _, _, _, _, _], _ => exact ⟨rfl, rfl, rfl⟩
  · intro W base args ds p hval hA hfz hlt
    rw [Try.params4] at hval
    have hA' : DataW.TrodAll enc Try.prog W 0 (fun _ => true) true Try.f4.params.toList args.toList ds p := hA
    rw [Try.params4] at hA'
    obtain ⟨v0, vs0, d0, ds0, p0, q0, hargs, rfl, rfl, h0, r0⟩ := trodAll_cons hA'
    obtain ⟨v1, vs1, d1, ds1, p1, q1, rfl, rfl, rfl, h1, r1⟩ := trodAll_cons r0
    obtain ⟨v2, vs2, d2, ds2, p2, q2, rfl, rfl, rfl, h2, r2⟩ := trodAll_cons r1
    obtain ⟨v3, vs3, d3, ds3, p3, q3, rfl, rfl, rfl, h3, r3⟩ := trodAll_cons r2
    obtain ⟨v4, vs4, d4, ds4, p4, q4, rfl, rfl, rfl, h4, r4⟩ := trodAll_cons r3
    obtain ⟨v5, vs5, d5, ds5, p5, q5, rfl, rfl, rfl, h5, r5⟩ := trodAll_cons r4
    obtain ⟨v6, vs6, d6, ds6, p6, q6, rfl, rfl, rfl, h6, r6⟩ := trodAll_cons r5
    obtain ⟨v7, vs7, d7, ds7, p7, q7, rfl, rfl, rfl, h7, r7⟩ := trodAll_cons r6
    obtain ⟨v8, vs8, d8, ds8, p8, q8, rfl, rfl, rfl, h8, r8⟩ := trodAll_cons r7
    obtain ⟨rfl, rfl, rfl⟩ := trodAll_nil r8
    obtain rfl : args = #[v0, v1, v2, v3, v4, v5, v6, v7, v8] := by cases args; simp_all
    obtain ⟨a0, rfl, rfl, rfl, w0⟩ := open_int Try.underlying28 (hval 0 28 v0 rfl rfl) h0
    obtain ⟨a1, rfl, rfl, rfl, w1⟩ := open_int Try.underlying28 (hval 1 28 v1 rfl rfl) h1
    obtain ⟨a2, rfl, rfl, rfl, w2⟩ := open_int Try.underlying28 (hval 2 28 v2 rfl rfl) h2
    obtain ⟨a3, b3, rfl, w3⟩ := Pos.open_pos (hval 3 23 v3 rfl rfl) h3
    obtain ⟨a4, b4, rfl, w4⟩ := Pos.open_pos (hval 4 23 v4 rfl rfl) h4
    obtain ⟨a5, rfl, rfl, rfl, w5⟩ := open_int Try.underlying3 (hval 5 3 v5 rfl rfl) h5
    obtain ⟨a6, rfl, rfl, rfl, w6⟩ := open_int Try.underlying3 (hval 6 3 v6 rfl rfl) h6
    obtain ⟨a7, rfl, rfl, rfl, w7⟩ := open_int Try.underlying29 (hval 7 29 v7 rfl rfl) h7
    obtain ⟨a8, rfl, rfl, rfl, w8⟩ := open_int Try.underlying29 (hval 8 29 v8 rfl rfl) h8
    exact walk a0 a1 a2 a3 b3 a4 b4 a5 a6 a7 a8 w0 w1 w2 w3 w4 w5 w6 w7 w8 W

theorem over : Rows.serialCallsRow.holds Try.pinned (OpenSpec.ofChange Rows.serialCallsSpec) :=
  OpenClaim.holds_of_wide 4 Try.f4 rfl rfl rfl rfl rfl rfl rfl ⟨rfl, rfl, rfl, rfl, rfl⟩ rfl rfl rfl rfl rfl (by kernel_rfl) Try.func4 (by kernel_rfl)
    (of_decide_eq_true (by kernel_rfl)) (by unfold Func.isWrapper; first | (rw [if_pos (by decide +kernel)]; kernel_rfl) | (rw [if_neg (by decide +kernel)]; exact ⟨rfl, rfl⟩))
    (fun os started H enc _ => lifted os started H enc)

/-- The statement. -/
theorem proved : Rows.SerialCallsSaid :=
  over

end Go.Proofs.Ytgabbefghabcaaa.SerialCalls
