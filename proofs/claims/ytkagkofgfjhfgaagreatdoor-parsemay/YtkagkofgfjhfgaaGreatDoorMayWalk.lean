/-
  THE WALK of ParseMay: what is read may be; what is wrong stands in the text.
-/
import Derived.Test.YtkagkofgfjhfgaaGreatDoorValidEnd
import Derived.Test.YtkagkofgfjhfgaaGreatDoorJRowsWalk
import Derived.Test.YtkagkofgfjhfgaaGreatDoorGood
import Derived.Test.YtkagkofgfjhfgaaGreatDoorJCkCheck
import Derived.Deep.RegionHeld3
import Derived.Deep.DeepCutAuto
namespace Go.Proofs.YtkagkofgfjhfgaaGreatDoor
open Go.RowKit
set_option linter.unusedVariables false

theorem zero_rd (w : World) : NodeR w noN 0 0 ⟨#[]⟩ 0 (.slice none 0 0) := ⟨rfl, rfl, rfl, rfl, ⟨none, 0, rfl, Nat.le_refl _, by omega, .inl rfl⟩⟩
/-- What a reading answers, of either sort: the node's parts, the place, the error. -/
def RdIs (T : Except (Nat × Nat) Tree) (w : World) (k a : Int) (b : ByteArray) (n : Int) (v : Value) (p e : Nat) : Prop := match T with
  | .error q => p = q.1 ∧ e = q.2 ∧ k = 0 ∧ a = 0 ∧ b = ⟨#[]⟩ ∧ n = 0 ∧ v = .slice none 0 0
  | .ok t => p = 0 ∧ e = 0 ∧ NodeR w t k a b n v
theorem RdIs.below {T : Except (Nat × Nat) Tree} {w w' : World} {k a : Int} {b : ByteArray} {n : Int} {v : Value} {p e : Nat} (h : RdIs T w k a b n v p e) (hb : Below w.heap.size w w') : RdIs T w' k a b n v p e := by
  cases T with
  | error q => exact h
  | ok t => exact ⟨h.1, h.2.1, h.2.2.below hb⟩
theorem read_uni {w w' : World} {T : Except (Nat × Nat) Tree} {en : Ending} (h : ReadIs w T en w') : Below w.heap.size w w' ∧ ∃ k a b n ao ln cap p e, en = .returned (.tuple #[.agg #[.int .u8 k, .int .i64 a, .string b, .int .u64 n, .slice ao ln cap], .int .i64 ((p : Nat) : Int), .int .i64 ((e : Nat) : Int)]) ∧ RdIs T w' k a b n (.slice ao ln cap) p e := by
  obtain ⟨hb, h⟩ := h
  refine ⟨hb, ?_⟩
  cases T with
  | error q => obtain ⟨p, e⟩ := q; exact ⟨0, 0, ⟨#[]⟩, 0, none, 0, 0, p, e, h, rfl, rfl, rfl, rfl, rfl, rfl, rfl⟩
  | ok t =>
    obtain ⟨k, a, b, n, v, rfl, hN⟩ := h
    obtain ⟨ao, cap, rfl⟩ := hN.q.shape
    exact ⟨k, a, b, n, ao, _, cap, 0, 0, rfl, rfl, rfl, hN.rd⟩
theorem rd_bound {T : Except (Nat × Nat) Tree} {w : World} {k a : Int} {b : ByteArray} {n : Int} {v : Value} {p e m : Nat} (h : RdIs T w k a b n v p e) (hT : ∀ q e, T = .error (q, e) → q ≤ m) : p ≤ m := by
  cases T with
  | error q => rw [h.1]; exact hT q.1 q.2 rfl
  | ok t => rw [h.1]; exact Nat.zero_le _

set_option maxRecDepth 100000 in
set_option maxHeartbeats 8000000 in
theorem parseMay_walk (s : ByteArray) (w : World) (hmax0 : s.size ≤ maxLen) (HL : Hid (Laid w)) : Calls Tryz.prog 3 #[.string s] w fun e w' => e = .returned (.bool true) ∧ Below w.heap.size w w' := by
  have hmax : s.size ≤ 9223372036854775807 := hmax0
  clear hmax0
  by_cases hbig : 8192 < s.size
  · have hb2 : (8192 : Int) < (s.size : Int) := by omega
    go_enter Tryz.func3, Tryz.ntmps3
    go_wp2
    go_ret
    exact ⟨rfl, Below.refl _ _⟩
  · have hb2 : ¬ (8192 : Int) < (s.size : Int) := by omega
    have hs3 : s.size ≤ 8192 := by omega
    have hbl : (bytesN s).length ≤ 8192 := by rw [bytesN_length]; exact hs3
    clear hbig hmax
    cases htk : tokens (bytesN s) with
    | error q =>
      obtain ⟨p, e⟩ := q
      have HT : Hid (tokens (bytesN s) = .error (p, e)) := htk
      have hne : ((e : Int) != 0) = true := by have := tokens_enz _ _ _ htk; simp; omega
      have hr : ∀ m : P Tree, readS m (bytesN s) = some (.error (p, e)) := by intro m; unfold readS; rw [htk]
      have H1 : Hid (readS (programP fuelN) (bytesN s) = some (.error (p, e))) := hr _
      have H2 : Hid (readS (R fuelN).expr (bytesN s) = some (.error (p, e))) := hr _
      have H3 : Hid (readS (R fuelN).typ (bytesN s) = some (.error (p, e))) := hr _
      clear htk hr
      go_enter Tryz.func3, Tryz.ntmps3
      go_wp2_with fail
      refine (source_is s (by omega) _ H1 w HL.out).mono ?_
      rintro en w1 ⟨hb1, rfl⟩
      have hL1 := (HL.out.on hb1).on ((Below.refl w1.heap.size w1).alloc (Nat.le_refl _) (.cells #[.int .u8 0, .int .i64 0, .string ⟨#[]⟩, .int .u64 0, .slice none 0 0] 25))
      have h01 : Below w.heap.size w (w1.alloc (.cells #[.int .u8 0, .int .i64 0, .string ⟨#[]⟩, .int .u64 0, .slice none 0 0] 25)) := hb1.alloc hb1.size _
      go_wp2_with fail
      refine (expr_is s (by omega) _ H2 _ hL1).mono ?_
      rintro en w2 ⟨hb2', rfl⟩
      have hL2 := (hL1.on hb2').on ((Below.refl w2.heap.size w2).alloc (Nat.le_refl _) (.cells #[.int .u8 0, .int .i64 0, .string ⟨#[]⟩, .int .u64 0, .slice none 0 0] 25))
      have h02 : Below w.heap.size w (w2.alloc (.cells #[.int .u8 0, .int .i64 0, .string ⟨#[]⟩, .int .u64 0, .slice none 0 0] 25)) := (h01.trans (hb2'.mono h01.size)).alloc (h01.trans (hb2'.mono h01.size)).size _
      go_wp2_with fail
      refine (type_is s (by omega) _ H3 _ hL2).mono ?_
      rintro en w3 ⟨hb3, rfl⟩
      have hL3 := (hL2.on hb3).on ((Below.refl w3.heap.size w3).alloc (Nat.le_refl _) (.cells #[.int .u8 0, .int .i64 0, .string ⟨#[]⟩, .int .u64 0, .slice none 0 0] 25))
      have h03 : Below w.heap.size w (w3.alloc (.cells #[.int .u8 0, .int .i64 0, .string ⟨#[]⟩, .int .u64 0, .slice none 0 0] 25)) := (h02.trans (hb3.mono h02.size)).alloc (h02.trans (hb3.mono h02.size)).size _
      go_wp2_with fail
      refine (xtokens_any s (by omega) (.error (p, e)) HT _ hL3).mono ?_
      rintro en w4 ⟨rfl, hb4⟩
      have hL4 := hL3.on hb4
      have h04 : Below w.heap.size w w4 := h03.trans (hb4.mono h03.size)
      clear h01 h02 h03 hL1 hL2 hL3 hb1 hb2' hb3 hb4 H1 H2 H3 HT HL
      go_wp2_with fail
      refine (works_any _ hL4).mono ?_
      rintro en w5 ⟨rfl, hb5⟩
      go_wp2
      go_ret
      exact ⟨rfl, h04.trans (hb5.mono h04.size)⟩
    | ok ts =>
      have HT : Hid (tokens (bytesN s) = .ok ts) := htk
      obtain ⟨TS, hTS⟩ := src_some (bytesN s) (bytesN_lt s)
      obtain ⟨TX, hTX⟩ := expr_some (bytesN s) (bytesN_lt s)
      obtain ⟨TY, hTY⟩ := typ_some (bytesN s) (bytesN_lt s)
      have bS : ∀ q e, TS = .error (q, e) → q ≤ s.size ∧ (e = 40 ∨ e = 41) := fun q e h => by rw [h] at hTS; have := readv_no (program_valid fuelN) htk hTS; rw [bytesN_length] at this; exact this
      have bX : ∀ q e, TX = .error (q, e) → q ≤ s.size ∧ (e = 40 ∨ e = 41) := fun q e h => by rw [h] at hTX; have := readv_no (R_valid fuelN).2.2.1 htk hTX; rw [bytesN_length] at this; exact this
      have bY : ∀ q e, TY = .error (q, e) → q ≤ s.size ∧ (e = 40 ∨ e = 41) := fun q e h => by rw [h] at hTY; have := readv_no (R_valid fuelN).1 htk hTY; rw [bytesN_length] at this; exact this
      have cS : Hid (∀ t, TS = .ok t → goodTr t ∧ checkN t = 0 ∧ t.kind = 1) := fun t h => by rw [h] at hTS; exact ⟨read_good program_good (bytesN_lt s) hTS, source_may hbl hTS⟩
      have cX : Hid (∀ t, TX = .ok t → goodTr t ∧ checkN t = 0) := fun t h => by rw [h] at hTX; exact ⟨read_good (R_good fuelN (Nat.le_refl _)).2.2.1 (bytesN_lt s) hTX, expr_may hbl hTX⟩
      have cY : Hid (∀ t, TY = .ok t → goodTr t ∧ checkN t = 0) := fun t h => by rw [h] at hTY; exact ⟨read_good (R_good fuelN (Nat.le_refl _)).1 (bytesN_lt s) hTY, type_may hbl hTY⟩
      have dS : Hid (∀ q e, TS = .error (q, e) → q ≤ s.size ∧ (e = 40 ∨ e = 41)) := bS
      have dX : Hid (∀ q e, TX = .error (q, e) → q ≤ s.size ∧ (e = 40 ∨ e = 41)) := bX
      have dY : Hid (∀ q e, TY = .error (q, e) → q ≤ s.size ∧ (e = 40 ∨ e = 41)) := bY
      have H1 : Hid (readS (programP fuelN) (bytesN s) = some TS) := hTS
      have H2 : Hid (readS (R fuelN).expr (bytesN s) = some TX) := hTX
      have H3 : Hid (readS (R fuelN).typ (bytesN s) = some TY) := hTY
      clear htk hTS hTX hTY bS bX bY hbl
      go_enter Tryz.func3, Tryz.ntmps3
      go_wp2_with fail
      refine (source_is s (by omega) _ H1 w HL.out).mono ?_
      rintro en w1 hr1
      obtain ⟨hb1, k1, a1, b1, n1, ao1, ln1, cap1, p1, e1, rfl, q1⟩ := read_uni hr1
      have Q1 : Hid (RdIs TS w1 k1 a1 b1 n1 (.slice ao1 ln1 cap1) p1 e1) := q1
      clear hr1 q1
      have HL1 : Hid (Laid (w1.alloc (.cells #[.int .u8 k1, .int .i64 a1, .string b1, .int .u64 n1, .slice ao1 ln1 cap1] 25))) := (HL.out.on hb1).on ((Below.refl w1.heap.size w1).alloc (Nat.le_refl _) _)
      go_wp2_with fail
      refine (expr_is s (by omega) _ H2 _ HL1.out).mono ?_
      rintro en w2 hr2
      obtain ⟨hb2', k2, a2, b2, n2, ao2, ln2, cap2, p2, e2, rfl, q2⟩ := read_uni hr2
      have Q2 : Hid (RdIs TX w2 k2 a2 b2 n2 (.slice ao2 ln2 cap2) p2 e2) := q2
      clear hr2 q2
      have hb12 : Below w1.heap.size w1 w2 := ((Below.refl _ _).alloc (Nat.le_refl _) _).trans (hb2'.mono (by rw [World.size_alloc]; omega))
      have o1 : Own w2 w1.heap.size #[.int .u8 k1, .int .i64 a1, .string b1, .int .u64 n1, .slice ao1 ln1 cap1] 25 := (Own.new w1 #[.int .u8 k1, .int .i64 a1, .string b1, .int .u64 n1, .slice ao1 ln1 cap1] 25).below hb2'
      have HL2 : Hid (Laid (w2.alloc (.cells #[.int .u8 k2, .int .i64 a2, .string b2, .int .u64 n2, .slice ao2 ln2 cap2] 25))) := (HL1.out.on hb2').on ((Below.refl w2.heap.size w2).alloc (Nat.le_refl _) _)
      have hb02 : Below w.heap.size w w2 := hb1.trans (hb12.mono hb1.size)
      clear hb2'
      go_wp2_with fail
      refine (type_is s (by omega) _ H3 _ HL2.out).mono ?_
      rintro en w3 hr3
      obtain ⟨hb3, k3, a3, b3, n3, ao3, ln3, cap3, p3, e3, rfl, q3⟩ := read_uni hr3
      have Q3 : Hid (RdIs TY w3 k3 a3 b3 n3 (.slice ao3 ln3 cap3) p3 e3) := q3
      clear hr3 q3
      have hb23 : Below w2.heap.size w2 w3 := ((Below.refl _ _).alloc (Nat.le_refl _) _).trans (hb3.mono (by rw [World.size_alloc]; omega))
      have o2 : Own w3 w2.heap.size #[.int .u8 k2, .int .i64 a2, .string b2, .int .u64 n2, .slice ao2 ln2 cap2] 25 := (Own.new w2 #[.int .u8 k2, .int .i64 a2, .string b2, .int .u64 n2, .slice ao2 ln2 cap2] 25).below hb3
      have HL3 : Hid (Laid (w3.alloc (.cells #[.int .u8 k3, .int .i64 a3, .string b3, .int .u64 n3, .slice ao3 ln3 cap3] 25))) := (HL2.out.on hb3).on ((Below.refl w3.heap.size w3).alloc (Nat.le_refl _) _)
      have hb03 : Below w.heap.size w w3 := hb02.trans (hb23.mono hb02.size)
      clear hb3
      go_wp2_with fail
      refine (xtokens_any s (by omega) (.ok ts) HT _ HL3.out).mono ?_
      rintro en w4 ⟨va, rfl, ownA, hb4⟩
      obtain ⟨aa, ca, rfl⟩ := own_form ownA
      clear ownA
      have hb34 : Below w3.heap.size w3 w4 := ((Below.refl _ _).alloc (Nat.le_refl _) _).trans (hb4.mono (by rw [World.size_alloc]; omega))
      have o3 : Own w4 w3.heap.size #[.int .u8 k3, .int .i64 a3, .string b3, .int .u64 n3, .slice ao3 ln3 cap3] 25 := (Own.new w3 #[.int .u8 k3, .int .i64 a3, .string b3, .int .u64 n3, .slice ao3 ln3 cap3] 25).below hb4
      have HL4 : Hid (Laid w4) := HL3.out.on hb4
      have hb24 : Below w2.heap.size w2 w4 := hb23.trans (hb34.mono hb23.size)
      have hb14 : Below w1.heap.size w1 w4 := hb12.trans (hb24.mono hb12.size)
      have HB4 : Hid (Below w.heap.size w w4) := hb03.trans (hb34.mono hb03.size)
      replace o1 := o1.below hb24
      replace o2 := o2.below hb34
      replace Q1 : Hid (RdIs TS w4 k1 a1 b1 n1 (.slice ao1 ln1 cap1) p1 e1) := Q1.out.below hb14
      replace Q2 : Hid (RdIs TX w4 k2 a2 b2 n2 (.slice ao2 ln2 cap2) p2 e2) := Q2.out.below hb24
      replace Q3 : Hid (RdIs TY w4 k3 a3 b3 n3 (.slice ao3 ln3 cap3) p3 e3) := Q3.out.below hb34
      clear hb4 hb34 hb24 hb14 hb12 hb23 hb03 hb02 hb1 HL1 HL2 HL3 HL H1 H2 H3 HT
      have l1 : p1 ≤ s.size := rd_bound Q1.out fun q e h => (dS.out q e h).1
      have l2 : p2 ≤ s.size := rd_bound Q2.out fun q e h => (dX.out q e h).1
      have l3 : p3 ≤ s.size := rd_bound Q3.out fun q e h => (dY.out q e h).1
      have t1 : decide ((p1 : Int) < 0) = false := by simp
      have t2 : decide ((s.size : Int) < (p1 : Int)) = false := by simp; omega
      have t3 : decide ((p2 : Int) < 0) = false := by simp
      have t4 : decide ((s.size : Int) < (p2 : Int)) = false := by simp; omega
      have t5 : decide ((p3 : Int) < 0) = false := by simp
      have t6 : decide ((s.size : Int) < (p3 : Int)) = false := by simp; omega
      have u1 : ¬ ((p1 : Int) < 0) := by omega
      have u2 : ¬ ((s.size : Int) < (p1 : Int)) := by omega
      have u3 : ¬ ((p2 : Int) < 0) := by omega
      have u4 : ¬ ((s.size : Int) < (p2 : Int)) := by omega
      have u5 : ¬ ((p3 : Int) < 0) := by omega
      have u6 : ¬ ((s.size : Int) < (p3 : Int)) := by omega
      clear l1 l2 l3 hs3 hb2
      go_upto_region 11 with fail
      clear t1 t2 t3 t4 t5 t6 u1 u2 u3 u4 u5 u6
      go_cut [15] (fun a wx => a = .bool true ∧ Below w4.heap.size w4 wx)
      case first =>
        obtain ⟨c0, c1, c2, c3, c4, cf⟩ := o1.five
        have hlt := o1.lt
        have qq := Q1.out
        cases TS with
        | error q =>
          obtain ⟨pq, eq⟩ := q
          obtain ⟨rfl, rfl, rfl, rfl, rfl, rfl, hv⟩ := qq
          cases hv
          rcases (dS.out _ _ rfl).2 with h40 | h40
          · subst h40
            go_wp2_with fail
            refine (kSameNode_as (eqv_refl true noN) w4 _ _ _ _ _ _ _ _ _ _ (zero_rd _) (zero_rd _)).mono ?_
            rintro en wz ⟨rfl, hbz⟩
            go_wp2_with fail
            go_meet
            exact ⟨rfl, hbz⟩
          · subst h40
            go_wp2_with fail
            refine (kSameNode_as (eqv_refl true noN) w4 _ _ _ _ _ _ _ _ _ _ (zero_rd _) (zero_rd _)).mono ?_
            rintro en wz ⟨rfl, hbz⟩
            go_wp2_with fail
            go_meet
            exact ⟨rfl, hbz⟩
        | ok t =>
          obtain ⟨hg, hck, hkd⟩ := cS.out t rfl
          obtain ⟨rfl, rfl, hN⟩ := qq
          have hk1 : k1 = 1 := by rw [hN.1, hkd]; rfl
          subst hk1
          have CC := pCheck_as w4 t hg _ _ _ _ _ hN
          rw [hck] at CC
          clear hN hck hg hkd
          go_wp2_with fail
          refine CC.mono ?_
          rintro en wz ⟨rfl, hbz⟩
          have oz := o1.below hbz
          obtain ⟨d0, d1, d2, d3, d4, df⟩ := oz.five
          have hltz := oz.lt
          go_wp2_with fail
          go_meet
          exact ⟨rfl, hbz⟩
      case rest =>
        obtain ⟨rfl, hbc⟩ := hcut
        have HLc1 : Hid (Laid wc) := HL4.out.on hbc
        have HBc1 : Hid (Below w.heap.size w wc) := HB4.out.trans (hbc.mono HB4.out.size)
        replace o2 := o2.below hbc
        replace Q2 : Hid (RdIs TX wc k2 a2 b2 n2 (.slice ao2 ln2 cap2) p2 e2) := Q2.out.below hbc
        replace o3 := o3.below hbc
        replace Q3 : Hid (RdIs TY wc k3 a3 b3 n3 (.slice ao3 ln3 cap3) p3 e3) := Q3.out.below hbc
        clear hbc Q1 o1
        go_upto_region 12 with fail
        go_cut [16] (fun a wx => a = .bool true ∧ Below wc.heap.size wc wx)
        case first =>
          obtain ⟨c0, c1, c2, c3, c4, cf⟩ := o2.five
          have hlt := o2.lt
          have qq := Q2.out
          cases TX with
          | error q =>
            obtain ⟨pq, eq⟩ := q
            obtain ⟨rfl, rfl, rfl, rfl, rfl, rfl, hv⟩ := qq
            cases hv
            rcases (dX.out _ _ rfl).2 with h40 | h40
            · subst h40
              go_wp2_with fail
              refine (kSameNode_as (eqv_refl true noN) wc _ _ _ _ _ _ _ _ _ _ (zero_rd _) (zero_rd _)).mono ?_
              rintro en wz ⟨rfl, hbz⟩
              go_wp2_with fail
              go_meet
              exact ⟨rfl, hbz⟩
            · subst h40
              go_wp2_with fail
              refine (kSameNode_as (eqv_refl true noN) wc _ _ _ _ _ _ _ _ _ _ (zero_rd _) (zero_rd _)).mono ?_
              rintro en wz ⟨rfl, hbz⟩
              go_wp2_with fail
              go_meet
              exact ⟨rfl, hbz⟩
          | ok t =>
            obtain ⟨hg, hck⟩ := cX.out t rfl
            obtain ⟨rfl, rfl, hN⟩ := qq
            have CC := pCheck_as wc t hg _ _ _ _ _ hN
            rw [hck] at CC
            clear hN hck hg
            go_wp2_with fail
            refine CC.mono ?_
            rintro en wz ⟨rfl, hbz⟩
            go_wp2_with fail
            go_meet
            exact ⟨rfl, hbz⟩
        case rest =>
          obtain ⟨rfl, hbc⟩ := hcut
          have HLc2 : Hid (Laid wc) := HLc1.out.on hbc
          have HBc2 : Hid (Below w.heap.size w wc) := HBc1.out.trans (hbc.mono HBc1.out.size)
          replace o3 := o3.below hbc
          replace Q3 : Hid (RdIs TY wc k3 a3 b3 n3 (.slice ao3 ln3 cap3) p3 e3) := Q3.out.below hbc
          clear hbc Q2 o2
          go_upto_region 13 with fail
          go_cut [17] (fun a wx => a = .bool true ∧ Below wc.heap.size wc wx)
          case first =>
            obtain ⟨c0, c1, c2, c3, c4, cf⟩ := o3.five
            have hlt := o3.lt
            have qq := Q3.out
            cases TY with
            | error q =>
              obtain ⟨pq, eq⟩ := q
              obtain ⟨rfl, rfl, rfl, rfl, rfl, rfl, hv⟩ := qq
              cases hv
              rcases (dY.out _ _ rfl).2 with h40 | h40
              · subst h40
                go_wp2_with fail
                refine (kSameNode_as (eqv_refl true noN) wc _ _ _ _ _ _ _ _ _ _ (zero_rd _) (zero_rd _)).mono ?_
                rintro en wz ⟨rfl, hbz⟩
                go_wp2_with fail
                go_meet
                exact ⟨rfl, hbz⟩
              · subst h40
                go_wp2_with fail
                refine (kSameNode_as (eqv_refl true noN) wc _ _ _ _ _ _ _ _ _ _ (zero_rd _) (zero_rd _)).mono ?_
                rintro en wz ⟨rfl, hbz⟩
                go_wp2_with fail
                go_meet
                exact ⟨rfl, hbz⟩
            | ok t =>
              obtain ⟨hg, hck⟩ := cY.out t rfl
              obtain ⟨rfl, rfl, hN⟩ := qq
              have CC := pCheck_as wc t hg _ _ _ _ _ hN
              rw [hck] at CC
              clear hN hck hg
              go_wp2_with fail
              refine CC.mono ?_
              rintro en wz ⟨rfl, hbz⟩
              go_wp2_with fail
              go_meet
              exact ⟨rfl, hbz⟩
          case rest =>
            obtain ⟨rfl, hbc⟩ := hcut
            have HLc3 : Hid (Laid wc) := HLc2.out.on hbc
            have HBc3 : Hid (Below w.heap.size w wc) := HBc2.out.trans (hbc.mono HBc2.out.size)
            clear hbc Q3 o3
            go_wp2_with fail
            refine (works_any _ HLc3).mono ?_
            rintro en w5 ⟨rfl, hb5⟩
            go_wp2
            go_ret
            exact ⟨rfl, HBc3.out.trans (hb5.mono HBc3.out.size)⟩
end Go.Proofs.YtkagkofgfjhfgaaGreatDoor
