/-
  THE WALK of ParseSigns: two signs between three names.
-/
import Derived.Test.YtkagkofgfjhfgaaGreatDoorSignsMath
import Derived.Test.YtkagkofgfjhfgaaGreatDoorJBlanks
import Derived.Test.YtkagkofgfjhfgaaGreatDoorJRowsWalk
import Derived.Deep.RegionHeld3
import Derived.Deep.DeepCutAuto
namespace Go.Proofs.YtkagkofgfjhfgaaGreatDoor
open Go.RowKit
set_option linter.unusedVariables false

theorem sign_i64 {x : Int} (h : (Lit.int .i64 x).wf = true) : -9223372036854775808 ≤ x ∧ x ≤ 9223372036854775807 := by
  simp only [Lit.wf, IntKind.min, IntKind.max, IntKind.signed, IntKind.bits, Bool.and_eq_true, decide_eq_true_eq, if_true] at h
  omega
theorem sign_drew {B : Nat} {a w : World} (h : Below B a w) : Below B a w.drew := ⟨h.os, h.tape, h.output, h.size, h.block⟩
def sgC : Array Value := #[.string ⟨#[124, 124]⟩, .string ⟨#[38, 38]⟩, .string ⟨#[61, 61]⟩, .string ⟨#[33, 61]⟩, .string ⟨#[60]⟩, .string ⟨#[60, 61]⟩, .string ⟨#[62]⟩, .string ⟨#[62, 61]⟩, .string ⟨#[43]⟩, .string ⟨#[45]⟩, .string ⟨#[124]⟩, .string ⟨#[94]⟩, .string ⟨#[42]⟩, .string ⟨#[47]⟩, .string ⟨#[37]⟩, .string ⟨#[38]⟩, .string ⟨#[60, 60]⟩, .string ⟨#[62, 62]⟩]
def lnC : Array Value := #[.int .i64 0, .int .i64 1, .int .i64 2, .int .i64 2, .int .i64 2, .int .i64 2, .int .i64 2, .int .i64 2, .int .i64 3, .int .i64 3, .int .i64 3, .int .i64 3, .int .i64 4, .int .i64 4, .int .i64 4, .int .i64 4, .int .i64 4, .int .i64 4]
theorem sgC_at : ∀ K : Nat, K < 18 → sgC[K]? = some (.string (strN (sgN K))) := by
  intro K h
  match K, h with
  | 0, _ => rfl
  | 1, _ => rfl
  | 2, _ => rfl
  | 3, _ => rfl
  | 4, _ => rfl
  | 5, _ => rfl
  | 6, _ => rfl
  | 7, _ => rfl
  | 8, _ => rfl
  | 9, _ => rfl
  | 10, _ => rfl
  | 11, _ => rfl
  | 12, _ => rfl
  | 13, _ => rfl
  | 14, _ => rfl
  | 15, _ => rfl
  | 16, _ => rfl
  | 17, _ => rfl
  | K + 18, h => omega
theorem lnC_at : ∀ K : Nat, K < 18 → lnC[K]? = some (.int .i64 (lnN K : Int)) := by
  intro K h
  match K, h with
  | 0, _ => rfl
  | 1, _ => rfl
  | 2, _ => rfl
  | 3, _ => rfl
  | 4, _ => rfl
  | 5, _ => rfl
  | 6, _ => rfl
  | 7, _ => rfl
  | 8, _ => rfl
  | 9, _ => rfl
  | 10, _ => rfl
  | 11, _ => rfl
  | 12, _ => rfl
  | 13, _ => rfl
  | 14, _ => rfl
  | 15, _ => rfl
  | 16, _ => rfl
  | 17, _ => rfl
  | K + 18, h => omega
theorem sgN_ok : ∀ K : Nat, K < 18 → (∀ c ∈ sgN K, c < 256) ∧ (sgN K).length ≤ 2 ∧ lnN K ≤ 4 := by decide
/-- A row that begins where its block does. -/
def At0 (v : Value) : Prop := v = .slice none 0 0 ∨ ∃ g m c, v = .slice (some ⟨g, 0, none⟩) m c
theorem row_at0 {w : World} {B : Nat} {v : Value} {ts : List Tree} (h : Row w B v ts) : At0 v := by
  obtain ⟨xs, F0, F1, hk, _⟩ := h
  rcases hk.2 with ⟨q, _⟩ | ⟨g, cap, cur, q, _⟩
  · exact .inl q
  · exact .inr ⟨g, _, cap, q⟩
/-- What a reading answers, of either sort. -/
def SgIs (T : Except (Nat × Nat) Tree) (w : World) (k a : Int) (b : ByteArray) (n : Int) (v : Value) (p e : Nat) : Prop := match T with
  | .error q => p = q.1 ∧ e = q.2
  | .ok t => p = 0 ∧ e = 0 ∧ NodeR w t k a b n v ∧ At0 v
theorem SgIs.below {T : Except (Nat × Nat) Tree} {w w' : World} {k a : Int} {b : ByteArray} {n : Int} {v : Value} {p e : Nat} (h : SgIs T w k a b n v p e) (hb : Below w.heap.size w w') : SgIs T w' k a b n v p e := by
  cases T with
  | error q => exact h
  | ok t => exact ⟨h.1, h.2.1, h.2.2.1.below hb, h.2.2.2⟩
def SgR (T : Except (Nat × Nat) Tree) (w : World) (B : Nat) (k a : Int) (b : ByteArray) (n : Int) (v : Value) (p e : Nat) : Prop := match T with
  | .error q => p = q.1 ∧ e = q.2
  | .ok t => p = 0 ∧ e = 0 ∧ NodeIs w B t k a b n v
theorem SgR.rd {T : Except (Nat × Nat) Tree} {w : World} {B : Nat} {k a : Int} {b : ByteArray} {n : Int} {v : Value} {p e : Nat} (h : SgR T w B k a b n v p e) : SgIs T w k a b n v p e := by
  cases T with
  | error q => exact h
  | ok t => exact ⟨h.1, h.2.1, h.2.2.rd, row_at0 h.2.2.2.2.2.2⟩
theorem sg_uni {w w' : World} {T : Except (Nat × Nat) Tree} {en : Ending} (h : ReadIs w T en w') : Below w.heap.size w w' ∧ ∃ k a b n ao ln cap p e, en = .returned (.tuple #[.agg #[.int .u8 k, .int .i64 a, .string b, .int .u64 n, .slice ao ln cap], .int .i64 ((p : Nat) : Int), .int .i64 ((e : Nat) : Int)]) ∧ SgR T w' w.heap.size k a b n (.slice ao ln cap) p e := by
  obtain ⟨hb, h⟩ := h
  refine ⟨hb, ?_⟩
  cases T with
  | error q => obtain ⟨p, e⟩ := q; exact ⟨0, 0, ⟨#[]⟩, 0, none, 0, 0, p, e, h, rfl, rfl⟩
  | ok t =>
    obtain ⟨k, a, b, n, v, rfl, hN⟩ := h
    obtain ⟨ao, cap, rfl⟩ := hN.q.shape
    exact ⟨k, a, b, n, ao, _, cap, 0, 0, rfl, rfl, rfl, hN⟩
theorem SgR.set5 {T : Except (Nat × Nat) Tree} {w : World} {B g : Nat} {k a : Int} {b : ByteArray} {n : Int} {v : Value} {p e : Nat} (h : SgR T w B k a b n v p e) (hg : g < B) (b0 b1 b2 b3 b4 : Value) : SgIs T (((((w.setCell ⟨g, 0, none⟩ b0).setCell ⟨g, 1, none⟩ b1).setCell ⟨g, 2, none⟩ b2).setCell ⟨g, 3, none⟩ b3).setCell ⟨g, 4, none⟩ b4) k a b n v p e := by
  cases T with
  | error q => exact h
  | ok t =>
    obtain ⟨h1, h2, h3⟩ := h
    exact ⟨h1, h2, ⟨h3.1, h3.2.1, h3.2.2.1, h3.2.2.2.1, (h3.2.2.2.2.set5 (g := g) hg b0 b1 b2 b3 b4).rd⟩, row_at0 h3.2.2.2.2⟩

set_option maxRecDepth 100000 in
set_option maxHeartbeats 8000000 in
theorem parseSigns_walk (i k : Int) (w : World) (hi0 : (Lit.int .i64 i).wf = true) (hk0 : (Lit.int .i64 k).wf = true) (HL : Hid (Laid w)) : Calls Tryz.prog 6 #[.int .i64 i, .int .i64 k] w fun e w' => e = .returned (.bool true) ∧ Below w.heap.size w w' := by
  have hi := sign_i64 hi0
  have hk := sign_i64 hk0
  clear hi0 hk0
  obtain ⟨I, hI, hI18⟩ : ∃ I : Nat, i % 18 = (I : Int) ∧ I < 18 := ⟨(i % 18).toNat, by omega, by omega⟩
  obtain ⟨K, hK, hK18⟩ : ∃ K : Nat, k % 18 = (K : Int) ∧ K < 18 := ⟨(k % 18).toNat, by omega, by omega⟩
  obtain ⟨TB, hTB⟩ : ∃ TB, bothR I K = TB := ⟨_, rfl⟩
  have HTB : Hid (bothR I K = TB) := hTB
  obtain ⟨SI, hSI⟩ : ∃ SI, strN (sgN I) = SI := ⟨_, rfl⟩
  have gI : bytesN SI = sgN I := by rw [← hSI]; exact bytesN_strN _ (sgN_ok I hI18).1
  have zI : SI.size ≤ 2 := by rw [← bytesN_length, gI]; exact (sgN_ok I hI18).2.1
  obtain ⟨SK, hSK⟩ : ∃ SK, strN (sgN K) = SK := ⟨_, rfl⟩
  have gK : bytesN SK = sgN K := by rw [← hSK]; exact bytesN_strN _ (sgN_ok K hK18).1
  have zK : SK.size ≤ 2 := by rw [← bytesN_length, gK]; exact (sgN_ok K hK18).2.1
  have hlen : (sgN I).length = SI.size := by rw [← gI, bytesN_length]
  have HLEN : Hid ((sgN I).length = SI.size) := hlen
  have HB : Hid (readS (R fuelN).expr (bytesN ((((⟨#[97, 32]⟩ ++ SI) ++ ⟨#[32, 98, 32]⟩) ++ SK) ++ ⟨#[32, 99]⟩)) = some TB) := by unfold Hid; rw [bytesN_app2, bytesN_app2, bytesN_app2, bytesN_app2, gI, gK, ← hTB]; exact both_is I K hI18 hK18
  have HLf : Hid (readS (R fuelN).expr (bytesN (⟨#[97, 32]⟩ ++ SI ++ ⟨#[32, 98]⟩)) = some (.ok (lefT I))) := by unfold Hid; rw [bytesN_app2, bytesN_app2, gI]; exact left_is I hI18
  have HRt : Hid (readS (R fuelN).expr (bytesN (⟨#[98, 32]⟩ ++ SK ++ ⟨#[32, 99]⟩)) = some (.ok (rigT K))) := by unfold Hid; rw [bytesN_app2, bytesN_app2, gK]; exact right_is K hK18
  have y1 : ByteArray.size ⟨#[97, 32]⟩ = 2 := rfl
  have y2 : ByteArray.size ⟨#[98, 32]⟩ = 2 := rfl
  have y3 : ByteArray.size ⟨#[32, 98, 32]⟩ = 3 := rfl
  have y4 : ByteArray.size ⟨#[32, 99]⟩ = 2 := rfl
  have y5 : ByteArray.size ⟨#[32, 98]⟩ = 2 := rfl
  have r1 : ∀ W' : World, (Op.stringOp .add (⟨#[97, 32]⟩) (SI)).run Tryz.prog W' = .ok (.string (⟨#[97, 32]⟩ ++ SI)) W' := fun W' => run_string_add_sum W' _ _ (by (try simp only [ByteArray.size_append]); omega)
  have r2 : ∀ W' : World, (Op.stringOp .add (⟨#[97, 32]⟩ ++ SI) (⟨#[32, 98, 32]⟩)).run Tryz.prog W' = .ok (.string ((⟨#[97, 32]⟩ ++ SI) ++ ⟨#[32, 98, 32]⟩)) W' := fun W' => run_string_add_sum W' _ _ (by (try simp only [ByteArray.size_append]); omega)
  have r3 : ∀ W' : World, (Op.stringOp .add ((⟨#[97, 32]⟩ ++ SI) ++ ⟨#[32, 98, 32]⟩) (SK)).run Tryz.prog W' = .ok (.string (((⟨#[97, 32]⟩ ++ SI) ++ ⟨#[32, 98, 32]⟩) ++ SK)) W' := fun W' => run_string_add_sum W' _ _ (by (try simp only [ByteArray.size_append]); omega)
  have r4 : ∀ W' : World, (Op.stringOp .add (((⟨#[97, 32]⟩ ++ SI) ++ ⟨#[32, 98, 32]⟩) ++ SK) (⟨#[32, 99]⟩)).run Tryz.prog W' = .ok (.string ((((⟨#[97, 32]⟩ ++ SI) ++ ⟨#[32, 98, 32]⟩) ++ SK) ++ ⟨#[32, 99]⟩)) W' := fun W' => run_string_add_sum W' _ _ (by (try simp only [ByteArray.size_append]); omega)
  have r5 : ∀ W' : World, (Op.stringOp .add (⟨#[97, 32]⟩ ++ SI) (⟨#[32, 98]⟩)).run Tryz.prog W' = .ok (.string ((⟨#[97, 32]⟩ ++ SI) ++ ⟨#[32, 98]⟩)) W' := fun W' => run_string_add_sum W' _ _ (by (try simp only [ByteArray.size_append]); omega)
  have r6 : ∀ W' : World, (Op.stringOp .add (⟨#[98, 32]⟩) (SK)).run Tryz.prog W' = .ok (.string (⟨#[98, 32]⟩ ++ SK)) W' := fun W' => run_string_add_sum W' _ _ (by (try simp only [ByteArray.size_append]); omega)
  have r7 : ∀ W' : World, (Op.stringOp .add (⟨#[98, 32]⟩ ++ SK) (⟨#[32, 99]⟩)).run Tryz.prog W' = .ok (.string ((⟨#[98, 32]⟩ ++ SK) ++ ⟨#[32, 99]⟩)) W' := fun W' => run_string_add_sum W' _ _ (by (try simp only [ByteArray.size_append]); omega)
  have hs4 : ((((⟨#[97, 32]⟩ ++ SI) ++ ⟨#[32, 98, 32]⟩) ++ SK) ++ ⟨#[32, 99]⟩).size ≤ 1048576 := by (try simp only [ByteArray.size_append]); omega
  have hs5 : (⟨#[97, 32]⟩ ++ SI ++ ⟨#[32, 98]⟩).size ≤ 1048576 := by (try simp only [ByteArray.size_append]); omega
  have hs6 : (⟨#[98, 32]⟩ ++ SK ++ ⟨#[32, 99]⟩).size ≤ 1048576 := by (try simp only [ByteArray.size_append]); omega
  clear y1 y2 y3 y4 y5
  have hlI := (sgN_ok I hI18).2.2
  have hlK := (sgN_ok K hK18).2.2
  obtain ⟨W0, hW0⟩ : ∃ W0, (w.alloc (.cells sgC 9)).alloc (.cells lnC 3) = W0 := ⟨_, rfl⟩
  have hb0 : Below w.heap.size w W0 := by rw [← hW0]; exact ((Below.refl _ _).alloc (Nat.le_refl _) _).alloc (by rw [World.size_alloc]; omega) _
  have oS : Own W0 w.heap.size sgC 9 := by rw [← hW0]; exact (Own.new w sgC 9).alloc _
  have oL : Own W0 (w.heap.size + 1) lnC 3 := by rw [← hW0]; have := Own.new (w.alloc (.cells sgC 9)) lnC 3; rw [World.size_alloc] at this; exact this
  have hW1 : (w.alloc (.cells #[.string ⟨#[124, 124]⟩, .string ⟨#[38, 38]⟩, .string ⟨#[61, 61]⟩, .string ⟨#[33, 61]⟩, .string ⟨#[60]⟩, .string ⟨#[60, 61]⟩, .string ⟨#[62]⟩, .string ⟨#[62, 61]⟩, .string ⟨#[43]⟩, .string ⟨#[45]⟩, .string ⟨#[124]⟩, .string ⟨#[94]⟩, .string ⟨#[42]⟩, .string ⟨#[47]⟩, .string ⟨#[37]⟩, .string ⟨#[38]⟩, .string ⟨#[60, 60]⟩, .string ⟨#[62, 62]⟩] 9)).alloc (.cells #[.int .i64 0, .int .i64 1, .int .i64 2, .int .i64 2, .int .i64 2, .int .i64 2, .int .i64 2, .int .i64 2, .int .i64 3, .int .i64 3, .int .i64 3, .int .i64 3, .int .i64 4, .int .i64 4, .int .i64 4, .int .i64 4, .int .i64 4, .int .i64 4] 3) = W0 := hW0
  have HL0 : Hid (Laid W0) := HL.out.on hb0
  have HB0 : Hid (Below w.heap.size w W0) := hb0
  clear hW0 HL hb0 hTB hlen
  go_enter Tryz.func6, Tryz.ntmps6
  go_upto_region 3 with fail
  try rw [hW1]
  clear hW1
  have sI : W0.cell? ⟨w.heap.size, I, none⟩ = some (.string SI) := (cell_of_row _ _ I _ _ _ oS).trans ((sgC_at I hI18).trans (by rw [hSI]))
  have sK : W0.cell? ⟨w.heap.size, K, none⟩ = some (.string SK) := (cell_of_row _ _ K _ _ _ oS).trans ((sgC_at K hK18).trans (by rw [hSK]))
  have hlS := oS.lt
  have hlL := oL.lt
  have bI0 : (0 : Int) ≤ (I : Int) := by omega
  have bI1 : (I : Int) < 18 := by omega
  have bK0 : (0 : Int) ≤ (K : Int) := by omega
  have bK1 : (K : Int) < 18 := by omega
  go_wp2_with fail
  refine (pick_as i 18 I (by omega) (by omega) hI hi _).mono ?_
  rintro en wp ⟨rfl, rfl⟩
  go_wp2_with fail
  refine (pick_as k 18 K (by omega) (by omega) hK hk _).mono ?_
  rintro en wp ⟨rfl, rfl⟩
  clear hi hk hI hK
  have HLd : Hid (Laid W0.drew) := HL0.out.on (sign_drew (Below.refl _ _))
  have HLa : Hid (Laid (W0.drew.alloc (.cells #[.int .u8 0, .int .i64 0, .string ⟨#[]⟩, .int .u64 0, .slice none 0 0] 25))) := HL0.out.on ((sign_drew (Below.refl W0.heap.size W0)).alloc (Nat.le_refl _) _)
  go_upto_region 4 with fail
  go_cut [7, 8, 9] (fun y pl g wx => ∃ gN k1 a1 b1 n1 ao1 ln1 cap1 p1 e1, y = .pointer (some ⟨gN, 0, none⟩) ∧ pl = .int .i64 ((p1 : Nat) : Int) ∧ g = .int .i64 ((e1 : Nat) : Int) ∧ Own wx gN #[.int .u8 k1, .int .i64 a1, .string b1, .int .u64 n1, .slice ao1 ln1 cap1] 25 ∧ SgIs TB wx k1 a1 b1 n1 (.slice ao1 ln1 cap1) p1 e1 ∧ Below W0.heap.size W0 wx)
  case first =>
    have hneI : W0.heap.size ≠ w.heap.size := by omega
    have hneI2 : w.heap.size ≠ W0.heap.size := by omega
    go_region_held3 (fun w' => w'.cell? ⟨w.heap.size, I, none⟩ = some (.string SI) ∧ w'.cell? ⟨w.heap.size, K, none⟩ = some (.string SK)) ((first | (simp [sI, sK, World.cell?_alloc_some, World.cell?_setCell_far, hneI]; done) | (simp [c8, c9, World.cell?_alloc_some, World.cell?_setCell_far, hneI]; done))) (first | (go_at_call 8; refine (expr_is _ hs4 _ HB _ (by first | exact HLd.out | exact HLa.out)).mono ?_; rintro en w4 hr4; obtain ⟨hb4, k1, a1, b1, n1, ao1, ln1, cap1, p1, e1, rfl, q1⟩ := sg_uni hr4; have hs9 := hb4.size; (try simp only [World.size_alloc] at hs9); (try simp only [World.size_drew] at hs9); have hb340 : Below W0.heap.size W0 w4 := (by first | exact (sign_drew (Below.refl W0.heap.size W0)).trans hb4 | exact ((sign_drew (Below.refl W0.heap.size W0)).alloc (Nat.le_refl _) _).trans (hb4.mono (by simp only [World.size_alloc, World.size_drew]; omega))); have c8 := (hb340.cell (p := ⟨w.heap.size, I, none⟩) hlS).trans sI; have c9 := (hb340.cell (p := ⟨w.heap.size, K, none⟩) hlS).trans sK; try (have q4 := (Own.new W0.drew #[.int .u8 0, .int .i64 0, .string ⟨#[]⟩, .int .u64 0, .slice none 0 0] 25).below hb4; rw [World.size_drew] at q4; obtain ⟨z0, z1, z2, z3, z4, zf⟩ := q4.five; have hlq := q4.lt)))
    · go_wp2_with fail
      go_meet
      have hb5 : Below w4.heap.size w4 (w4.alloc (.cells #[.int .u8 k1, .int .i64 a1, .string b1, .int .u64 n1, .slice ao1 ln1 cap1] 25)) := (Below.refl w4.heap.size w4).alloc (Nat.le_refl _) _
      exact ⟨_, k1, a1, b1, n1, ao1, ln1, cap1, p1, e1, rfl, rfl, rfl, Own.new w4 #[.int .u8 k1, .int .i64 a1, .string b1, .int .u64 n1, .slice ao1 ln1 cap1] 25, q1.rd.below hb5, hb340.trans (hb5.mono hb340.size)⟩
    · go_wp2_with fail
      go_meet
      exact ⟨_, k1, a1, b1, n1, ao1, ln1, cap1, p1, e1, rfl, rfl, rfl, q4.set5 (.int .u8 k1) (.int .i64 a1) (.string b1) (.int .u64 n1) (.slice ao1 ln1 cap1), q1.set5 (by simp only [World.size_alloc, World.size_drew]; omega) (.int .u8 k1) (.int .i64 a1) (.string b1) (.int .u64 n1) (.slice ao1 ln1 cap1), ((((hb340.setCell (p := ⟨W0.heap.size, 0, none⟩) (Nat.le_refl _) (.int .u8 k1)).setCell (p := ⟨W0.heap.size, 1, none⟩) (Nat.le_refl _) (.int .i64 a1)).setCell (p := ⟨W0.heap.size, 2, none⟩) (Nat.le_refl _) (.string b1)).setCell (p := ⟨W0.heap.size, 3, none⟩) (Nat.le_refl _) (.int .u64 n1)).setCell (p := ⟨W0.heap.size, 4, none⟩) (Nat.le_refl _) (.slice ao1 ln1 cap1)⟩
  case rest =>
    obtain ⟨gN, k1, a1, b1, n1, ao1, ln1, cap1, p1, e1, rfl, rfl, rfl, oN, q1, hb01⟩ := hcut
    have oS1 := oS.below hb01
    have oL1 := oL.below hb01
    have HL1 : Hid (Laid wc) := HL0.out.on hb01
    have HB1 : Hid (Below w.heap.size w wc) := HB0.out.trans (hb01.mono HB0.out.size)
    have Q1 : Hid (SgIs TB wc k1 a1 b1 n1 (.slice ao1 ln1 cap1) p1 e1) := q1
    clear q1 hb01 sI sK oS oL HL0 HB0 HLd HLa HB hs4 r2 r3 r4 hlS hlL
    have sI : wc.cell? ⟨w.heap.size, I, none⟩ = some (.string SI) := (cell_of_row _ _ I _ _ _ oS1).trans ((sgC_at I hI18).trans (by rw [hSI]))
    have lI : wc.cell? ⟨w.heap.size + 1, I, none⟩ = some (.int .i64 (lnN I : Int)) := (cell_of_row _ _ I _ _ _ oL1).trans (lnC_at I hI18)
    have sK : wc.cell? ⟨w.heap.size, K, none⟩ = some (.string SK) := (cell_of_row _ _ K _ _ _ oS1).trans ((sgC_at K hK18).trans (by rw [hSK]))
    have lK : wc.cell? ⟨w.heap.size + 1, K, none⟩ = some (.int .i64 (lnN K : Int)) := (cell_of_row _ _ K _ _ _ oL1).trans (lnC_at K hK18)
    have hlS := oS1.lt
    have hlL := oL1.lt
    obtain ⟨x0, x1, x2, x3, x4, xf⟩ := oN.five
    have hlN := oN.lt
    by_cases hcmp : lnN I = 2 ∧ lnN K = 2
    · have hT : TB = .error (5 + (sgN I).length, 40) := by rw [← HTB.out]; unfold bothR; rw [if_pos hcmp]
      obtain ⟨hp1, he1⟩ : p1 = 5 + (sgN I).length ∧ e1 = 40 := by have := Q1.out; rw [hT] at this; exact this
      rw [HLEN.out] at hp1
      have hc1 : ((lnN I : Int) == 2) = true := by simp; omega
      have hc2 : ((lnN K : Int) == 2) = true := by simp; omega
      have hp2 : (p1 : Int) = 5 + (SI.size : Int) := by omega
      subst he1
      clear hT Q1 hp1
      have hc3 : ((p1 : Int) == 5 + (SI.size : Int)) = true := by rw [hp2]; simp
      clear hp2 hcmp
      go_wp2_with fail
      refine (works_any _ HL1).mono ?_
      rintro en w5 ⟨rfl, hb5⟩
      go_wp2
      go_ret
      exact ⟨rfl, HB1.out.trans (hb5.mono HB1.out.size)⟩
    · obtain ⟨nT, hnT⟩ : ∃ nT, (if lnN K ≤ lnN I then upL I K else upR I K) = nT := ⟨_, rfl⟩
      have hT : TB = .ok nT := by rw [← HTB.out, ← hnT]; unfold bothR; rw [if_neg hcmp]
      obtain ⟨rfl, rfl, hNR, hat⟩ : p1 = 0 ∧ e1 = 0 ∧ NodeR wc nT k1 a1 b1 n1 (.slice ao1 ln1 cap1) ∧ At0 (.slice ao1 ln1 cap1) := by have := Q1.out; rw [hT] at this; exact this
      have hk2 : nT.kids.length = 2 := by rw [← hnT]; split <;> rfl
      have hln : ln1 = 2 := by obtain ⟨_, _, q, _⟩ := hNR.2.2.2.2; cases q; exact hk2
      subst hln
      obtain ⟨gk, rfl⟩ : ∃ gk, ao1 = some ⟨gk, 0, none⟩ := by rcases hat with q | ⟨g, m, c, q⟩ <;> cases q; exact ⟨_, rfl⟩
      clear hat
      have HNT : Hid ((if lnN K ≤ lnN I then upL I K else upR I K) = nT) := hnT
      have HNR : Hid (NodeR wc nT k1 a1 b1 n1 (.slice (some ⟨gk, 0, none⟩) 2 cap1)) := hNR
      clear hT Q1 hnT hk2 hNR
      go_upto_region 5 with fail
      go_cut [50] (fun c wx => c = .bool false ∧ wc = wx)
      case first =>
        by_cases hx : lnN I = 2
        · have hy : ¬ lnN K = 2 := fun q => hcmp ⟨hx, q⟩
          have e1 : ((lnN I : Int) == 2) = true := by simp; omega
          have e2 : ((lnN K : Int) == 2) = false := by simp; omega
          go_wp2_with fail
          go_meet
          exact ⟨rfl, rfl⟩
        · have e1 : ((lnN I : Int) == 2) = false := by simp; omega
          go_wp2_with fail
          go_meet
          exact ⟨rfl, rfl⟩
      case rest =>
        obtain ⟨rfl, rfl⟩ := hcut
        clear hcmp lI lK
        obtain ⟨LT, hLT⟩ : ∃ LT, lefT I = LT := ⟨_, rfl⟩
        obtain ⟨RT, hRT⟩ : ∃ RT, rigT K = RT := ⟨_, rfl⟩
        have HLT : Hid (lefT I = LT) := hLT
        have HRT : Hid (rigT K = RT) := hRT
        rw [hLT] at HLf
        rw [hRT] at HRt
        clear hLT hRT
        go_wp2_with fail
        refine (expr_is _ hs5 _ HLf wc HL1.out).mono ?_
        rintro en w6 ⟨hb6, hr6⟩
        obtain ⟨k6, a6, b6, n6, v6, rfl, hN6⟩ : ∃ k a b n v, en = .returned (.tuple #[.agg #[.int .u8 k, .int .i64 a, .string b, .int .u64 n, v], .int .i64 0, .int .i64 0]) ∧ NodeIs w6 _ LT k a b n v := hr6
        obtain ⟨ao6, cap6, rfl⟩ := hN6.q.shape
        have HN6 : Hid (NodeR w6 LT k6 a6 b6 n6 (.slice ao6 LT.kids.length cap6)) := hN6.rd
        clear hN6 sI sK x0 x1 x2 x3 x4 xf hlS hlL hlN
        have oS6 := (oS1.below hb6).alloc (.cells #[.int .u8 k6, .int .i64 a6, .string b6, .int .u64 n6, .slice ao6 LT.kids.length cap6] 25)
        have hb66 : Below w6.heap.size w6 (w6.alloc (.cells #[.int .u8 k6, .int .i64 a6, .string b6, .int .u64 n6, .slice ao6 LT.kids.length cap6] 25)) := (Below.refl _ _).alloc (Nat.le_refl _) _
        have sK6 : w6.cell? ⟨w.heap.size, K, none⟩ = some (.string SK) := (cell_of_row _ _ K _ _ _ (oS1.below hb6)).trans ((sgC_at K hK18).trans (by rw [hSK]))
        have hlS6 := (oS1.below hb6).lt
        have HL6 : Hid (Laid (w6.alloc (.cells #[.int .u8 k6, .int .i64 a6, .string b6, .int .u64 n6, .slice ao6 LT.kids.length cap6] 25))) := (HL1.out.on hb6).on hb66
        go_wp2_with fail
        refine (expr_is _ hs6 _ HRt _ HL6.out).mono ?_
        rintro en w7 ⟨hb7, hr7⟩
        obtain ⟨k7, a7, b7, n7, v7, rfl, hN7⟩ : ∃ k a b n v, en = .returned (.tuple #[.agg #[.int .u8 k, .int .i64 a, .string b, .int .u64 n, v], .int .i64 0, .int .i64 0]) ∧ NodeIs w7 _ RT k a b n v := hr7
        obtain ⟨ao7, cap7, rfl⟩ := hN7.q.shape
        have HN7 : Hid (NodeR w7 RT k7 a7 b7 n7 (.slice ao7 RT.kids.length cap7)) := hN7.rd
        clear hN7 sK6 hlS6 oS6
        obtain ⟨W8, hW8⟩ : ∃ W8, w7.alloc (.cells #[.int .u8 k7, .int .i64 a7, .string b7, .int .u64 n7, .slice ao7 RT.kids.length cap7] 25) = W8 := ⟨_, rfl⟩
        have hb78 : Below w7.heap.size w7 W8 := by rw [← hW8]; exact (Below.refl _ _).alloc (Nat.le_refl _) _
        have o7 : Own W8 w7.heap.size #[.int .u8 k7, .int .i64 a7, .string b7, .int .u64 n7, .slice ao7 RT.kids.length cap7] 25 := by rw [← hW8]; exact Own.new w7 _ _
        have hb67 : Below w6.heap.size w6 w7 := hb66.trans (hb7.mono hb66.size)
        have hb68 : Below w6.heap.size w6 W8 := hb67.trans (hb78.mono hb67.size)
        have hb18 : Below wc.heap.size wc W8 := hb6.trans (hb68.mono hb6.size)
        have o6 : Own W8 w6.heap.size #[.int .u8 k6, .int .i64 a6, .string b6, .int .u64 n6, .slice ao6 LT.kids.length cap6] 25 := ((Own.new w6 #[.int .u8 k6, .int .i64 a6, .string b6, .int .u64 n6, .slice ao6 LT.kids.length cap6] 25).below hb7).below hb78
        have oN8 := oN.below hb18
        have oL8 := oL1.below hb18
        have HN18 : Hid (NodeR W8 nT k1 a1 b1 n1 (.slice (some ⟨gk, 0, none⟩) 2 cap1)) := HNR.out.below hb18
        have HN68 : Hid (NodeR W8 LT k6 a6 b6 n6 (.slice ao6 LT.kids.length cap6)) := HN6.out.below hb68
        have HN78 : Hid (NodeR W8 RT k7 a7 b7 n7 (.slice ao7 RT.kids.length cap7)) := HN7.out.below hb78
        have HL8 : Hid (Laid W8) := HL1.out.on hb18
        have HB8 : Hid (Below w.heap.size w W8) := HB1.out.trans (hb18.mono HB1.out.size)
        clear hb18 hb68 hb67 hb66 hb78 hb7 hb6 HN6 HN7 HNR HL1 HB1 HL6 oN oS1 oL1 HLf HRt hs5 hs6 r1 r5 r6 r7
        have lI : W8.cell? ⟨w.heap.size + 1, I, none⟩ = some (.int .i64 (lnN I : Int)) := (cell_of_row _ _ I _ _ _ oL8).trans (lnC_at I hI18)
        have lK : W8.cell? ⟨w.heap.size + 1, K, none⟩ = some (.int .i64 (lnN K : Int)) := (cell_of_row _ _ K _ _ _ oL8).trans (lnC_at K hK18)
        have hlL := oL8.lt
        go_upto_region 13 with fail
        try rw [hW8]
        clear hW8
        by_cases hle : lnN K ≤ lnN I
        · have hd : decide ((lnN K : Int) ≤ (lnN I : Int)) = true := by simp; omega
          have hd2 : (lnN K : Int) ≤ (lnN I : Int) := by omega
          have hnT := HNT.out
          rw [if_pos hle] at hnT
          go_cut [110] (fun c wx => c = .bool true ∧ Below W8.heap.size W8 wx)
          case first =>
            clear hnT
            go_region_held3 (fun w' => w'.cell? ⟨w.heap.size + 1, I, none⟩ = some (.int .i64 (lnN I : Int)) ∧ w'.cell? ⟨w.heap.size + 1, K, none⟩ = some (.int .i64 (lnN K : Int))) (exact ⟨lI, lK⟩) (fail)
            go_wp2_with fail
            go_meet
            exact ⟨rfl, sign_drew (Below.refl _ _)⟩
          case rest =>
            obtain ⟨rfl, hb89⟩ := hcut
            have hk0 : nT.kids[0]? = some LT := by rw [← hnT, ← HLT.out]; rfl
            have hk1 : ∃ u, nT.kids[1]? = some u ∧ u.text = [99] := by rw [← hnT]; exact ⟨_, rfl, rfl⟩
            have hkd : k1 = k7 := by rw [HN18.out.1, HN78.out.1, ← hnT, ← HRT.out]; rfl
            have HE : Hid (eqv false LT LT) := eqv_refl false LT
            obtain ⟨cT, hcT⟩ : ∃ cT, LT = cT := ⟨_, rfl⟩
            have hkk := hk0
            have hoo := hk1
            obtain ⟨mT, hmT⟩ : ∃ mT, LT = mT := ⟨_, rfl⟩
            have HE2 : Hid (eqv false mT LT) := by unfold Hid; rw [← hmT]; exact HE.out
            rw [hmT] at hkk
            obtain ⟨uT, hu, hut⟩ := hoo
            obtain ⟨g0, o0, aj, cj, hq, hg0, m0, m1, m2, m3, m4, hmk⟩ := kids_cells (by have := HN18.out.2.2.2.2; have e : nT.kids.length = 2 := (by obtain ⟨_, _, q, _⟩ := this; injection q with _ q2 _; exact q2.symm); rw [← e] at this; exact this) hb89 0 mT hkk
            obtain ⟨rfl, rfl⟩ : gk = g0 ∧ 0 = o0 := by have := Option.some.inj hq; cases this; exact ⟨rfl, rfl⟩
            obtain ⟨g0, o0, aj2, cj2, hq2, _, _, _, v2, _, _, _⟩ := kids_cells (by have := HN18.out.2.2.2.2; have e : nT.kids.length = 2 := (by obtain ⟨_, _, q, _⟩ := this; injection q with _ q2 _; exact q2.symm); rw [← e] at this; exact this) hb89 1 uT hu
            obtain ⟨rfl, rfl⟩ : gk = g0 ∧ 0 = o0 := by have := Option.some.inj hq2; cases this; exact ⟨rfl, rfl⟩
            rw [hut] at v2
            replace v2 : wc.cell? ⟨gk, 7, none⟩ = some (.string ⟨#[99]⟩) := v2
            replace m0 : wc.cell? ⟨gk, 0, none⟩ = some (.int .u8 (mT.kind : Int)) := m0
            replace m1 : wc.cell? ⟨gk, 1, none⟩ = some (.int .i64 mT.at_) := m1
            replace m2 : wc.cell? ⟨gk, 2, none⟩ = some (.string (strN mT.text)) := m2
            replace m3 : wc.cell? ⟨gk, 3, none⟩ = some (.int .u64 (mT.n : Int)) := m3
            replace m4 : wc.cell? ⟨gk, 4, none⟩ = some (.slice aj mT.kids.length cj) := m4
            have HM : Hid (NodeR wc.drew mT mT.kind mT.at_ (strN mT.text) mT.n (.slice aj mT.kids.length cj)) := ⟨rfl, rfl, rfl, rfl, (hmk.below hb89).below (sign_drew (Below.refl _ _))⟩
            have HD : Hid (NodeR wc.drew LT k6 a6 b6 n6 (.slice ao6 LT.kids.length cap6)) := (HN68.out.below hb89).below (sign_drew (Below.refl _ _))
            have HL9 : Hid (Laid wc.drew) := (HL8.out.on hb89).on (sign_drew (Below.refl _ _))
            have HB9 : Hid (Below w.heap.size w wc.drew) := sign_drew (HB8.out.trans (hb89.mono HB8.out.size))
            have oN9 := oN8.below hb89
            have o69 := o6.below hb89
            have o79 := o7.below hb89
            obtain ⟨x0, x1, x2, x3, x4, xf⟩ := oN9.five
            obtain ⟨y0, y1, y2, y3, y4, yf⟩ := o69.five
            obtain ⟨t0, t1, t2, t3, t4, tf⟩ := o79.five
            have hlN := oN9.lt
            have hl6 := o69.lt
            have hl7 := o79.lt
            have hgk : gk < wc.heap.size := by have := hb89.size; omega
            clear hnT hk0 hk1 hkk hq hq2 hu hut hmT hcT HE hmk hb89 oN8 o6 o7 oL8 HN18 HN68 HN78 HL8 HB8 lI lK hlL hd hd2 HNT HLT HRT HTB hle hSI hSK gI gK HLEN
            subst hkd
            go_upto_region 14 with fail
            go_region_held3 (fun w' => w'.cell? ⟨gN, 0, none⟩ = some (.int .u8 k1) ∧ w'.cell? ⟨gN, 4, none⟩ = some (.slice (some ⟨gk, 0, none⟩) 2 cap1) ∧ w'.cell? ⟨w6.heap.size, 0, none⟩ = some (.int .u8 k6) ∧ w'.cell? ⟨w6.heap.size, 1, none⟩ = some (.int .i64 a6) ∧ w'.cell? ⟨w6.heap.size, 2, none⟩ = some (.string b6) ∧ w'.cell? ⟨w6.heap.size, 3, none⟩ = some (.int .u64 n6) ∧ w'.cell? ⟨w6.heap.size, 4, none⟩ = some (.slice ao6 LT.kids.length cap6) ∧ w'.cell? ⟨w7.heap.size, 0, none⟩ = some (.int .u8 k1) ∧ w'.cell? ⟨gk, 0, none⟩ = some (.int .u8 (mT.kind : Int)) ∧ w'.cell? ⟨gk, 1, none⟩ = some (.int .i64 mT.at_) ∧ w'.cell? ⟨gk, 2, none⟩ = some (.string (strN mT.text)) ∧ w'.cell? ⟨gk, 3, none⟩ = some (.int .u64 (mT.n : Int)) ∧ w'.cell? ⟨gk, 4, none⟩ = some (.slice aj mT.kids.length cj) ∧ w'.cell? ⟨gk, 7, none⟩ = some (.string ⟨#[99]⟩)) ((first | exact ⟨x0b, x4b, y0b, y1b, y2b, y3b, y4b, t0b, m0b, m1b, m2b, m3b, m4b, v2b⟩ | exact ⟨x0a, x4a, y0a, y1a, y2a, y3a, y4a, t0a, m0a, m1a, m2a, m3a, m4a, v2a⟩ | exact ⟨x0, x4, y0, y1, y2, y3, y4, t0, m0, m1, m2, m3, m4, v2⟩)) (first | (go_at_call 11; have hz0 := HL10; clear hz0; refine (works_any w10 HL10).mono ?_; rintro en w11 ⟨rfl, hbb⟩; have x0b := (hbb.cell (p := ⟨gN, 0, none⟩) (Nat.lt_of_lt_of_le hlN hba.size)).trans x0a; have x4b := (hbb.cell (p := ⟨gN, 4, none⟩) (Nat.lt_of_lt_of_le hlN hba.size)).trans x4a; have y0b := (hbb.cell (p := ⟨w6.heap.size, 0, none⟩) (Nat.lt_of_lt_of_le hl6 hba.size)).trans y0a; have y1b := (hbb.cell (p := ⟨w6.heap.size, 1, none⟩) (Nat.lt_of_lt_of_le hl6 hba.size)).trans y1a; have y2b := (hbb.cell (p := ⟨w6.heap.size, 2, none⟩) (Nat.lt_of_lt_of_le hl6 hba.size)).trans y2a; have y3b := (hbb.cell (p := ⟨w6.heap.size, 3, none⟩) (Nat.lt_of_lt_of_le hl6 hba.size)).trans y3a; have y4b := (hbb.cell (p := ⟨w6.heap.size, 4, none⟩) (Nat.lt_of_lt_of_le hl6 hba.size)).trans y4a; have t0b := (hbb.cell (p := ⟨w7.heap.size, 0, none⟩) (Nat.lt_of_lt_of_le hl7 hba.size)).trans t0a; have m0b := (hbb.cell (p := ⟨gk, 0, none⟩) (Nat.lt_of_lt_of_le hgk hba.size)).trans m0a; have m1b := (hbb.cell (p := ⟨gk, 1, none⟩) (Nat.lt_of_lt_of_le hgk hba.size)).trans m1a; have m2b := (hbb.cell (p := ⟨gk, 2, none⟩) (Nat.lt_of_lt_of_le hgk hba.size)).trans m2a; have m3b := (hbb.cell (p := ⟨gk, 3, none⟩) (Nat.lt_of_lt_of_le hgk hba.size)).trans m3a; have m4b := (hbb.cell (p := ⟨gk, 4, none⟩) (Nat.lt_of_lt_of_le hgk hba.size)).trans m4a; have v2b := (hbb.cell (p := ⟨gk, 7, none⟩) (Nat.lt_of_lt_of_le hgk hba.size)).trans v2a; have HB11 : Hid (Below w.heap.size w w11) := HB10.out.trans (hbb.mono HB10.out.size)) | (go_at_call 16; refine (kLikeNode_as HE2.out wc.drew _ _ _ _ _ _ _ _ _ _ HM.out HD.out).mono ?_; rintro en w10 ⟨rfl, hba⟩; have x0a := (hba.cell (p := ⟨gN, 0, none⟩) hlN).trans x0; have x4a := (hba.cell (p := ⟨gN, 4, none⟩) hlN).trans x4; have y0a := (hba.cell (p := ⟨w6.heap.size, 0, none⟩) hl6).trans y0; have y1a := (hba.cell (p := ⟨w6.heap.size, 1, none⟩) hl6).trans y1; have y2a := (hba.cell (p := ⟨w6.heap.size, 2, none⟩) hl6).trans y2; have y3a := (hba.cell (p := ⟨w6.heap.size, 3, none⟩) hl6).trans y3; have y4a := (hba.cell (p := ⟨w6.heap.size, 4, none⟩) hl6).trans y4; have t0a := (hba.cell (p := ⟨w7.heap.size, 0, none⟩) hl7).trans t0; have m0a := (hba.cell (p := ⟨gk, 0, none⟩) hgk).trans m0; have m1a := (hba.cell (p := ⟨gk, 1, none⟩) hgk).trans m1; have m2a := (hba.cell (p := ⟨gk, 2, none⟩) hgk).trans m2; have m3a := (hba.cell (p := ⟨gk, 3, none⟩) hgk).trans m3; have m4a := (hba.cell (p := ⟨gk, 4, none⟩) hgk).trans m4; have v2a := (hba.cell (p := ⟨gk, 7, none⟩) hgk).trans v2; have HL10 : Hid (Laid w10) := HL9.out.on hba; have HB10 : Hid (Below w.heap.size w w10) := HB9.out.trans (hba.mono HB9.out.size)) | fail)
            all_goals
              go_wp2
              go_ret
              exact ⟨rfl, HB11.out⟩
        · have hd : decide ((lnN K : Int) ≤ (lnN I : Int)) = false := by simp; omega
          have hd2 : ¬ (lnN K : Int) ≤ (lnN I : Int) := by omega
          have hnT := HNT.out
          rw [if_neg hle] at hnT
          go_cut [110] (fun c wx => c = .bool false ∧ Below W8.heap.size W8 wx)
          case first =>
            clear hnT
            go_region_held3 (fun w' => w'.cell? ⟨w.heap.size + 1, I, none⟩ = some (.int .i64 (lnN I : Int)) ∧ w'.cell? ⟨w.heap.size + 1, K, none⟩ = some (.int .i64 (lnN K : Int))) (exact ⟨lI, lK⟩) (fail)
            go_wp2_with fail
            go_meet
            exact ⟨rfl, sign_drew (Below.refl _ _)⟩
          case rest =>
            obtain ⟨rfl, hb89⟩ := hcut
            have hk1 : nT.kids[1]? = some (midT I K) := by rw [← hnT]; rfl
            have hk0 : ∃ u, nT.kids[0]? = some u ∧ u.text = [97] := by rw [← hnT]; exact ⟨_, rfl, rfl⟩
            have hkd : k1 = k6 := by rw [HN18.out.1, HN68.out.1, ← hnT, ← HLT.out]; rfl
            have HE : Hid (eqv false (midT I K) RT) := by unfold Hid; rw [← HRT.out]; exact mid_like I K
            have hkk := hk1
            have hoo := hk0
            obtain ⟨mT, hmT⟩ : ∃ mT, (midT I K) = mT := ⟨_, rfl⟩
            have HE2 : Hid (eqv false mT RT) := by unfold Hid; rw [← hmT]; exact HE.out
            rw [hmT] at hkk
            obtain ⟨uT, hu, hut⟩ := hoo
            obtain ⟨g0, o0, aj, cj, hq, hg0, m0, m1, m2, m3, m4, hmk⟩ := kids_cells (by have := HN18.out.2.2.2.2; have e : nT.kids.length = 2 := (by obtain ⟨_, _, q, _⟩ := this; injection q with _ q2 _; exact q2.symm); rw [← e] at this; exact this) hb89 1 mT hkk
            obtain ⟨rfl, rfl⟩ : gk = g0 ∧ 0 = o0 := by have := Option.some.inj hq; cases this; exact ⟨rfl, rfl⟩
            obtain ⟨g0, o0, aj2, cj2, hq2, _, _, _, v2, _, _, _⟩ := kids_cells (by have := HN18.out.2.2.2.2; have e : nT.kids.length = 2 := (by obtain ⟨_, _, q, _⟩ := this; injection q with _ q2 _; exact q2.symm); rw [← e] at this; exact this) hb89 0 uT hu
            obtain ⟨rfl, rfl⟩ : gk = g0 ∧ 0 = o0 := by have := Option.some.inj hq2; cases this; exact ⟨rfl, rfl⟩
            rw [hut] at v2
            replace v2 : wc.cell? ⟨gk, 2, none⟩ = some (.string ⟨#[97]⟩) := v2
            replace m0 : wc.cell? ⟨gk, 5, none⟩ = some (.int .u8 (mT.kind : Int)) := m0
            replace m1 : wc.cell? ⟨gk, 6, none⟩ = some (.int .i64 mT.at_) := m1
            replace m2 : wc.cell? ⟨gk, 7, none⟩ = some (.string (strN mT.text)) := m2
            replace m3 : wc.cell? ⟨gk, 8, none⟩ = some (.int .u64 (mT.n : Int)) := m3
            replace m4 : wc.cell? ⟨gk, 9, none⟩ = some (.slice aj mT.kids.length cj) := m4
            have HM : Hid (NodeR wc.drew mT mT.kind mT.at_ (strN mT.text) mT.n (.slice aj mT.kids.length cj)) := ⟨rfl, rfl, rfl, rfl, (hmk.below hb89).below (sign_drew (Below.refl _ _))⟩
            have HD : Hid (NodeR wc.drew RT k7 a7 b7 n7 (.slice ao7 RT.kids.length cap7)) := (HN78.out.below hb89).below (sign_drew (Below.refl _ _))
            have HL9 : Hid (Laid wc.drew) := (HL8.out.on hb89).on (sign_drew (Below.refl _ _))
            have HB9 : Hid (Below w.heap.size w wc.drew) := sign_drew (HB8.out.trans (hb89.mono HB8.out.size))
            have oN9 := oN8.below hb89
            have o69 := o6.below hb89
            have o79 := o7.below hb89
            obtain ⟨x0, x1, x2, x3, x4, xf⟩ := oN9.five
            obtain ⟨y0, y1, y2, y3, y4, yf⟩ := o69.five
            obtain ⟨t0, t1, t2, t3, t4, tf⟩ := o79.five
            have hlN := oN9.lt
            have hl6 := o69.lt
            have hl7 := o79.lt
            have hgk : gk < wc.heap.size := by have := hb89.size; omega
            clear hnT hk0 hk1 hkk hq hq2 hu hut hmT HE hmk hb89 oN8 o6 o7 oL8 HN18 HN68 HN78 HL8 HB8 lI lK hlL hd hd2 HNT HLT HRT HTB hle hSI hSK gI gK HLEN
            subst hkd
            go_upto_region 15 with fail
            go_region_held3 (fun w' => w'.cell? ⟨gN, 0, none⟩ = some (.int .u8 k1) ∧ w'.cell? ⟨gN, 4, none⟩ = some (.slice (some ⟨gk, 0, none⟩) 2 cap1) ∧ w'.cell? ⟨w7.heap.size, 0, none⟩ = some (.int .u8 k7) ∧ w'.cell? ⟨w7.heap.size, 1, none⟩ = some (.int .i64 a7) ∧ w'.cell? ⟨w7.heap.size, 2, none⟩ = some (.string b7) ∧ w'.cell? ⟨w7.heap.size, 3, none⟩ = some (.int .u64 n7) ∧ w'.cell? ⟨w7.heap.size, 4, none⟩ = some (.slice ao7 RT.kids.length cap7) ∧ w'.cell? ⟨w6.heap.size, 0, none⟩ = some (.int .u8 k1) ∧ w'.cell? ⟨gk, 5, none⟩ = some (.int .u8 (mT.kind : Int)) ∧ w'.cell? ⟨gk, 6, none⟩ = some (.int .i64 mT.at_) ∧ w'.cell? ⟨gk, 7, none⟩ = some (.string (strN mT.text)) ∧ w'.cell? ⟨gk, 8, none⟩ = some (.int .u64 (mT.n : Int)) ∧ w'.cell? ⟨gk, 9, none⟩ = some (.slice aj mT.kids.length cj) ∧ w'.cell? ⟨gk, 2, none⟩ = some (.string ⟨#[97]⟩)) ((first | exact ⟨x0b, x4b, t0b, t1b, t2b, t3b, t4b, y0b, m0b, m1b, m2b, m3b, m4b, v2b⟩ | exact ⟨x0a, x4a, t0a, t1a, t2a, t3a, t4a, y0a, m0a, m1a, m2a, m3a, m4a, v2a⟩ | exact ⟨x0, x4, t0, t1, t2, t3, t4, y0, m0, m1, m2, m3, m4, v2⟩)) (first | (go_at_call 11; have hz0 := HL10; clear hz0; refine (works_any w10 HL10).mono ?_; rintro en w11 ⟨rfl, hbb⟩; have x0b := (hbb.cell (p := ⟨gN, 0, none⟩) (Nat.lt_of_lt_of_le hlN hba.size)).trans x0a; have x4b := (hbb.cell (p := ⟨gN, 4, none⟩) (Nat.lt_of_lt_of_le hlN hba.size)).trans x4a; have t0b := (hbb.cell (p := ⟨w7.heap.size, 0, none⟩) (Nat.lt_of_lt_of_le hl7 hba.size)).trans t0a; have t1b := (hbb.cell (p := ⟨w7.heap.size, 1, none⟩) (Nat.lt_of_lt_of_le hl7 hba.size)).trans t1a; have t2b := (hbb.cell (p := ⟨w7.heap.size, 2, none⟩) (Nat.lt_of_lt_of_le hl7 hba.size)).trans t2a; have t3b := (hbb.cell (p := ⟨w7.heap.size, 3, none⟩) (Nat.lt_of_lt_of_le hl7 hba.size)).trans t3a; have t4b := (hbb.cell (p := ⟨w7.heap.size, 4, none⟩) (Nat.lt_of_lt_of_le hl7 hba.size)).trans t4a; have y0b := (hbb.cell (p := ⟨w6.heap.size, 0, none⟩) (Nat.lt_of_lt_of_le hl6 hba.size)).trans y0a; have m0b := (hbb.cell (p := ⟨gk, 5, none⟩) (Nat.lt_of_lt_of_le hgk hba.size)).trans m0a; have m1b := (hbb.cell (p := ⟨gk, 6, none⟩) (Nat.lt_of_lt_of_le hgk hba.size)).trans m1a; have m2b := (hbb.cell (p := ⟨gk, 7, none⟩) (Nat.lt_of_lt_of_le hgk hba.size)).trans m2a; have m3b := (hbb.cell (p := ⟨gk, 8, none⟩) (Nat.lt_of_lt_of_le hgk hba.size)).trans m3a; have m4b := (hbb.cell (p := ⟨gk, 9, none⟩) (Nat.lt_of_lt_of_le hgk hba.size)).trans m4a; have v2b := (hbb.cell (p := ⟨gk, 2, none⟩) (Nat.lt_of_lt_of_le hgk hba.size)).trans v2a; have HB11 : Hid (Below w.heap.size w w11) := HB10.out.trans (hbb.mono HB10.out.size)) | (go_at_call 16; refine (kLikeNode_as HE2.out wc.drew _ _ _ _ _ _ _ _ _ _ HM.out HD.out).mono ?_; rintro en w10 ⟨rfl, hba⟩; have x0a := (hba.cell (p := ⟨gN, 0, none⟩) hlN).trans x0; have x4a := (hba.cell (p := ⟨gN, 4, none⟩) hlN).trans x4; have t0a := (hba.cell (p := ⟨w7.heap.size, 0, none⟩) hl7).trans t0; have t1a := (hba.cell (p := ⟨w7.heap.size, 1, none⟩) hl7).trans t1; have t2a := (hba.cell (p := ⟨w7.heap.size, 2, none⟩) hl7).trans t2; have t3a := (hba.cell (p := ⟨w7.heap.size, 3, none⟩) hl7).trans t3; have t4a := (hba.cell (p := ⟨w7.heap.size, 4, none⟩) hl7).trans t4; have y0a := (hba.cell (p := ⟨w6.heap.size, 0, none⟩) hl6).trans y0; have m0a := (hba.cell (p := ⟨gk, 5, none⟩) hgk).trans m0; have m1a := (hba.cell (p := ⟨gk, 6, none⟩) hgk).trans m1; have m2a := (hba.cell (p := ⟨gk, 7, none⟩) hgk).trans m2; have m3a := (hba.cell (p := ⟨gk, 8, none⟩) hgk).trans m3; have m4a := (hba.cell (p := ⟨gk, 9, none⟩) hgk).trans m4; have v2a := (hba.cell (p := ⟨gk, 2, none⟩) hgk).trans v2; have HL10 : Hid (Laid w10) := HL9.out.on hba; have HB10 : Hid (Below w.heap.size w w10) := HB9.out.trans (hba.mono HB9.out.size)) | fail)
            all_goals
              go_wp2
              go_ret
              exact ⟨rfl, HB11.out⟩
end Go.Proofs.YtkagkofgfjhfgaaGreatDoor
