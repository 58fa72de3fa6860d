/-
  THE WALK of ParseBlanks: a remark put in, brackets put round.
-/
import Derived.Test.YtkagkofgfjhfgaaGreatDoorJBlanks
import Derived.Test.YtkagkofgfjhfgaaGreatDoorJRowsWalk
import Derived.Deep.RegionHeld3
import Derived.Deep.DeepCutAuto
namespace Go.Proofs.YtkagkofgfjhfgaaGreatDoor
open Go.RowKit
set_option linter.unusedVariables false
set_option linter.unusedSimpArgs false

theorem blank_own {w : World} {B n cap : Nat} {ao : Option Addr} {xs : List Value} (h : w.ownsRow B 39 5 (.slice ao n cap) n xs) : ∀ b, ao = some ⟨b, 0, none⟩ → B ≤ b ∧ b < w.heap.size := by
  intro b hb
  subst hb
  exact h.lt b rfl
theorem blank_i64 {x : Int} (h : (Lit.int .i64 x).wf = true) : -9223372036854775808 ≤ x ∧ x ≤ 9223372036854775807 := by
  simp only [Lit.wf, IntKind.min, IntKind.max, IntKind.signed, IntKind.bits, Bool.and_eq_true, decide_eq_true_eq, if_true] at h
  omega
theorem below_drew2 {B : Nat} {a w : World} (h : Below B a w) : Below B a w.drew := ⟨h.os, h.tape, h.output, h.size, h.block⟩

set_option maxRecDepth 100000 in
set_option maxHeartbeats 8000000 in
theorem parseBlanks_walk (s : ByteArray) (cut : Int) (w : World) (hmax0 : s.size ≤ maxLen) (hc : (Lit.int .i64 cut).wf = true) (HL : Hid (Laid w)) : Calls Tryz.prog 5 #[.string s, .int .i64 cut] w fun e w' => e = .returned (.bool true) ∧ Below w.heap.size w w' := by
  have hmax : s.size ≤ 9223372036854775807 := hmax0
  have hcut : -9223372036854775808 ≤ cut ∧ cut ≤ 9223372036854775807 := blank_i64 hc
  clear hmax0 hc
  by_cases hbig : 4096 < s.size
  · have hb2 : (4096 : Int) < (s.size : Int) := by omega
    go_enter Tryz.func5, Tryz.ntmps5
    go_wp2
    go_ret
    exact ⟨rfl, Below.refl _ _⟩
  · have hb2 : ¬ (4096 : Int) < (s.size : Int) := by omega
    have hs3 : s.size ≤ 4096 := by omega
    clear hbig hmax
    obtain ⟨TX, hTX⟩ := expr_some (bytesN s) (bytesN_lt s)
    have HTX : Hid (readS (R fuelN).expr (bytesN s) = some TX) := hTX
    clear hTX
    cases htk : tokens (bytesN s) with
    | error q =>
      obtain ⟨p, e⟩ := q
      have HT : Hid (tokens (bytesN s) = .error (p, e)) := htk
      have hne : ((e : Int) != 0) = true := by have := tokens_enz _ _ _ htk; simp; omega
      clear htk
      go_enter Tryz.func5, Tryz.ntmps5
      go_wp2_with fail
      refine (xtokens_any s (by omega) (.error (p, e)) HT w HL.out).mono ?_
      rintro en w1 ⟨rfl, hb1⟩
      have HL1 : Hid (Laid w1) := HL.out.on hb1
      go_wp2_with fail
      refine (expr_is s (by omega) TX HTX w1 HL1.out).mono ?_
      rintro en w2 ⟨hb2', hr2⟩
      have hb12 : Below w.heap.size w w2 := hb1.trans (hb2'.mono hb1.size)
      have HL2 := HL1.out.on hb2'
      cases TX with
      | error q =>
        obtain ⟨p', e'⟩ := q
        obtain rfl : en = .returned (.tuple #[.agg #[.int .u8 0, .int .i64 0, .string ⟨#[]⟩, .int .u64 0, .slice none 0 0], .int .i64 (p' : Int), .int .i64 (e' : Int)]) := hr2
        go_wp2_with fail
        refine (works_any _ (HL2.on ((Below.refl _ _).alloc (Nat.le_refl _) _))).mono ?_
        rintro en w3 ⟨rfl, hb3⟩
        go_wp2
        go_ret
        exact ⟨rfl, (hb12.alloc hb12.size _).trans (hb3.mono (by rw [World.size_alloc]; have := hb12.size; omega))⟩
      | ok x =>
        obtain ⟨k, a, b, n, v, rfl, hN⟩ : ∃ k a b n v, en = .returned (.tuple #[.agg #[.int .u8 k, .int .i64 a, .string b, .int .u64 n, v], .int .i64 0, .int .i64 0]) ∧ NodeIs w2 _ x k a b n v := hr2
        obtain ⟨ao, cap, rfl⟩ := hN.q.shape
        go_wp2_with fail
        refine (works_any _ (HL2.on ((Below.refl _ _).alloc (Nat.le_refl _) _))).mono ?_
        rintro en w3 ⟨rfl, hb3⟩
        go_wp2
        go_ret
        exact ⟨rfl, (hb12.alloc hb12.size _).trans (hb3.mono (by rw [World.size_alloc]; have := hb12.size; omega))⟩
    | ok ts =>
      have HT : Hid (tokens (bytesN s) = .ok ts) := htk
      obtain ⟨n, hn0⟩ : ∃ n, ts.length = n := ⟨_, rfl⟩
      have hn4 : n ≤ 4096 := by rw [← hn0]; exact few_toks (by rw [bytesN_length]; exact hs3) htk
      have HN : Hid (ts.length = n) := hn0
      clear htk hn0
      go_enter Tryz.func5, Tryz.ntmps5
      go_wp2_with fail
      refine (xtokens_any s (by omega) (.ok ts) HT w HL.out).mono ?_
      rintro en w1 ⟨va, rfl, ownA, hb1⟩
      rw [HN.out] at ownA
      obtain ⟨aa, ca, rfl⟩ := own_form ownA
      have LA : Hid (TokLies w1 aa ts) := lies_own ownA HN.out
      have OA : Hid (∀ b, aa = some ⟨b, 0, none⟩ → b < w1.heap.size) := fun b hb => (blank_own ownA b hb).2
      have HL1 : Hid (Laid w1) := HL.out.on hb1
      clear ownA
      go_wp2_with fail
      refine (expr_is s (by omega) TX HTX w1 HL1.out).mono ?_
      rintro en w2 ⟨hb2', hr2⟩
      have hb12 : Below w.heap.size w w2 := hb1.trans (hb2'.mono hb1.size)
      have HL2 : Hid (Laid w2) := HL1.out.on hb2'
      cases TX with
      | error q =>
        obtain ⟨p', e'⟩ := q
        obtain rfl : en = .returned (.tuple #[.agg #[.int .u8 0, .int .i64 0, .string ⟨#[]⟩, .int .u64 0, .slice none 0 0], .int .i64 (p' : Int), .int .i64 (e' : Int)]) := hr2
        have hne : ((e' : Int) != 0) = true := by have := read_enz HTX.out; simp; omega
        go_wp2_with fail
        refine (works_any _ (HL2.out.on ((Below.refl _ _).alloc (Nat.le_refl _) _))).mono ?_
        rintro en w3 ⟨rfl, hb3⟩
        go_wp2
        go_ret
        exact ⟨rfl, (hb12.alloc hb12.size _).trans (hb3.mono (by rw [World.size_alloc]; have := hb12.size; omega))⟩
      | ok x =>
        obtain ⟨k1, a1, b1, n1, v1, rfl, hN1⟩ : ∃ k a b n v, en = .returned (.tuple #[.agg #[.int .u8 k, .int .i64 a, .string b, .int .u64 n, v], .int .i64 0, .int .i64 0]) ∧ NodeIs w2 _ x k a b n v := hr2
        obtain ⟨ao1, cap1, rfl⟩ := hN1.q.shape
        by_cases hn0 : n = 0
        · subst hn0
          go_wp2_with fail
          refine (works_any _ (HL2.out.on ((Below.refl _ _).alloc (Nat.le_refl _) _))).mono ?_
          rintro en w3 ⟨rfl, hb3⟩
          go_wp2
          go_ret
          exact ⟨rfl, (hb12.alloc hb12.size _).trans (hb3.mono (by rw [World.size_alloc]; have := hb12.size; omega))⟩
        · have hnz : ((n : Int) == 0) = false := by simp; omega
          obtain ⟨K, hK0, hKn⟩ : ∃ K : Nat, cut % (n : Int) = (K : Int) ∧ K < n := by
            have e0 := Int.emod_nonneg cut (show (n : Int) ≠ 0 by omega)
            have e1 := Int.emod_lt_of_pos cut (show 0 < (n : Int) by omega)
            exact ⟨(cut % (n : Int)).toNat, by omega, by omega⟩
          have hbl : (bytesN s).length ≤ 4096 := by rw [bytesN_length]; exact hs3
          obtain ⟨u, hu⟩ : ∃ u, ts[K]? = some u := by
            have hlt : K < ts.length := by rw [HN.out]; exact hKn
            exact ⟨ts[K], List.getElem?_eq_getElem hlt⟩
          obtain ⟨P, hP⟩ : ∃ P, u.2.2.2.1 = P := ⟨_, rfl⟩
          obtain ⟨hPs, hrm⟩ := remark_math (bytesN s) hbl ts HT.out x HTX.out K u hu
          rw [hP] at hPs hrm
          rw [bytesN_length] at hPs
          obtain ⟨TZ, hTZ, hZ⟩ := bracket_math (bytesN s) hbl x HTX.out
          have hw6 := expr_wrap (bytesN s) hbl x HTX.out P (by omega) 6 (by omega)
          have hw1 := expr_plus (bytesN s) hbl x HTX.out
          have HGX : Hid (goodTr x) := read_good (R_good fuelN (Nat.le_refl _)).2.2.1 (bytesN_lt s) HTX.out
          obtain ⟨yT, hyT⟩ : ∃ yT, mapTr (shf (P : Int) 6) x = yT := ⟨_, rfl⟩
          have HYX : Hid (mapTr (shf (P : Int) 6) x = yT) := hyT
          have HYR : Hid (readS (R fuelN).expr (bytesN (s.extract 0 P ++ ⟨#[32, 47, 47, 32, 98, 10]⟩ ++ s.extract P s.size)) = some (.ok yT)) := by
            unfold Hid
            rw [← hyT]
            rw [bytesN_app2, bytesN_app2, bytesN_extract, bytesN_extract, List.drop_zero, Nat.sub_zero, List.append_assoc, List.take_of_length_le (l := (bytesN s).drop P) (by rw [List.length_drop, bytesN_length]; omega), show shf (P : Int) 6 = shf (P : Int) ((6 : Nat) : Int) from rfl, hw6]
            exact hrm
          have HZR : Hid (readS (R fuelN).expr (bytesN (⟨#[40]⟩ ++ s ++ ⟨#[10, 41]⟩)) = some TZ) := by
            unfold Hid
            rw [bytesN_app2, bytesN_app2]
            exact hTZ
          have HZZ : Hid ((∃ p, TZ = .error (p, 41)) ∨ TZ = .ok (mapTr (shf 0 1) x)) := by unfold Hid; rw [hw1]; exact hZ
          have hszy : (s.extract 0 P ++ ⟨#[32, 47, 47, 32, 98, 10]⟩ ++ s.extract P s.size).size ≤ 1048576 := by rw [ByteArray.size_append, ByteArray.size_append, ByteArray.size_extract, ByteArray.size_extract, show ByteArray.size ⟨#[32, 47, 47, 32, 98, 10]⟩ = 6 from rfl]; omega
          have hszz : (⟨#[40]⟩ ++ s ++ ⟨#[10, 41]⟩ : ByteArray).size ≤ 1048576 := by rw [ByteArray.size_append, ByteArray.size_append, show ByteArray.size ⟨#[40]⟩ = 1 from rfl, show ByteArray.size ⟨#[10, 41]⟩ = 2 from rfl]; omega
          rcases LA.out with q | ⟨g, rfl, hcell⟩
          · exfalso; have := HN.out; rw [q] at this; simp at this; omega
          have hgs := OA.out g rfl
          obtain ⟨_, _, _, c3, _⟩ := lies_cells HN.out hcell hKn
          have hd : ts.getD K default = u := by rw [List.getD_eq_getElem?_getD, hu]; rfl
          rw [hd, hP] at c3
          replace c3 := (hb2'.cell (p := ⟨g, K * 5 + 3, none⟩) hgs).trans c3
          have hg2 : g < w2.heap.size := by have := hb2'.size; omega
          obtain ⟨W3, hW3⟩ : ∃ W3, w2.alloc (.cells #[.int .u8 k1, .int .i64 a1, .string b1, .int .u64 n1, .slice ao1 x.kids.length cap1] 25) = W3 := ⟨_, rfl⟩
          have hb23 : Below w2.heap.size w2 W3 := by rw [← hW3]; exact (Below.refl _ _).alloc (Nat.le_refl _) _
          have HS23 : Hid (W3.heap.size = w2.heap.size + 1) := by unfold Hid; rw [← hW3, World.size_alloc]
          have hl23 : w2.heap.size < W3.heap.size := by have := HS23.out; omega
          have oX : Own W3 w2.heap.size #[.int .u8 k1, .int .i64 a1, .string b1, .int .u64 n1, .slice ao1 x.kids.length cap1] 25 := by rw [← hW3]; exact Own.new w2 _ _
          have c3W := (hb23.cell (p := ⟨g, K * 5 + 3, none⟩) hg2).trans c3
          have HL3 : Hid (Laid W3) := HL2.out.on hb23
          have HRX : Hid (NodeR W3 x k1 a1 b1 n1 (.slice ao1 x.kids.length cap1)) := hN1.rd.below hb23
          have hb03 : Below w.heap.size w W3 := hb12.trans (hb23.mono hb12.size)
          clear hu hrm hTZ hZ hw6 hw1 hcell hyT hd hN1 c3 hb12 hb1 hb2' HL1 HL2 LA OA HT HTX HN hP
          go_upto_region 5 with fail
          try rw [hW3]
          clear hW3 hb23
          go_wp2_with fail
          refine (pick_as cut n K (by omega) (by omega) hK0 hcut _).mono ?_
          rintro en wp ⟨rfl, rfl⟩
          have i1 : (0 : Int) ≤ (P : Int) := by omega
          have i2 : (P : Int) ≤ (s.size : Int) := by omega
          have HLd : Hid (Laid W3.drew) := HL3.out.on (below_drew2 (Below.refl _ _))
          have HLa : Hid (Laid (W3.drew.alloc (.cells #[.int .u8 0, .int .i64 0, .string ⟨#[]⟩, .int .u64 0, .slice none 0 0] 25))) := HL3.out.on ((below_drew2 (Below.refl W3.heap.size W3)).alloc (Nat.le_refl _) _)
          have z1 : (s.extract 0 P).size = P := by rw [ByteArray.size_extract]; omega
          have z3 : (s.extract P s.size).size ≤ 4096 := by rw [ByteArray.size_extract]; omega
          have r1 : ∀ W' : World, (Op.stringOp .add (s.extract 0 P) ⟨#[32, 47, 47, 32, 98, 10]⟩).run Tryz.prog W' = .ok (.string (s.extract 0 P ++ ⟨#[32, 47, 47, 32, 98, 10]⟩)) W' := fun W' => run_string_add_sum W' _ _ (by rw [z1, show ByteArray.size ⟨#[32, 47, 47, 32, 98, 10]⟩ = 6 from rfl]; omega)
          have r2 : ∀ W' : World, (Op.stringOp .add (s.extract 0 P ++ ⟨#[32, 47, 47, 32, 98, 10]⟩) (s.extract P s.size)).run Tryz.prog W' = .ok (.string (s.extract 0 P ++ ⟨#[32, 47, 47, 32, 98, 10]⟩ ++ s.extract P s.size)) W' := fun W' => run_string_add_sum W' _ _ (by rw [ByteArray.size_append, z1, show ByteArray.size ⟨#[32, 47, 47, 32, 98, 10]⟩ = 6 from rfl]; omega)
          clear z1 z3
          go_upto_region 8 with fail
          go_cut [12, 13, 14] (fun y pl g wx => ∃ gY k4 a4 b4 n4 ao4 cap4, y = .pointer (some ⟨gY, 0, none⟩) ∧ pl = .int .i64 0 ∧ g = .int .i64 0 ∧ Own wx gY #[.int .u8 k4, .int .i64 a4, .string b4, .int .u64 n4, .slice ao4 yT.kids.length cap4] 25 ∧ NodeR wx yT k4 a4 b4 n4 (.slice ao4 yT.kids.length cap4) ∧ Below W3.heap.size W3 wx)
          case first =>
            go_region_held3 (fun _ => True) (trivial) (first | (go_at_call 8; refine (expr_is _ hszy _ HYR _ (by first | exact HLd.out | exact HLa.out)).mono ?_; rintro en w4 ⟨hb4, hr4⟩; obtain ⟨k4, a4, b4, n4, v4, rfl, hN4⟩ : ∃ k a b n v, en = .returned (.tuple #[.agg #[.int .u8 k, .int .i64 a, .string b, .int .u64 n, v], .int .i64 0, .int .i64 0]) ∧ NodeIs w4 _ yT k a b n v := hr4; obtain ⟨ao4, cap4, rfl⟩ := hN4.q.shape; have hs4 := hb4.size; simp only [World.size_drew, World.size_alloc] at hs4; try (have q4 := (Own.new W3.drew #[.int .u8 0, .int .i64 0, .string ⟨#[]⟩, .int .u64 0, .slice none 0 0] 25).below hb4; rw [World.size_drew] at q4; obtain ⟨z0, z1, z2, z3, z4, zf⟩ := q4.five; have hlq := q4.lt)))
            · go_wp2_with fail
              go_meet
              have hb340 : Below W3.heap.size W3 w4 := (below_drew2 (Below.refl W3.heap.size W3)).trans hb4
              have hb5 : Below w4.heap.size w4 (w4.alloc (.cells #[.int .u8 k4, .int .i64 a4, .string b4, .int .u64 n4, .slice ao4 yT.kids.length cap4] 25)) := (Below.refl w4.heap.size w4).alloc (Nat.le_refl _) _
              exact ⟨_, k4, a4, b4, n4, ao4, cap4, rfl, rfl, rfl, Own.new w4 #[.int .u8 k4, .int .i64 a4, .string b4, .int .u64 n4, .slice ao4 yT.kids.length cap4] 25, hN4.rd.below hb5, hb340.trans (hb5.mono hb340.size)⟩
            · go_wp2_with fail
              go_meet
              have hb340 : Below W3.heap.size W3 w4 := ((below_drew2 (Below.refl W3.heap.size W3)).alloc (Nat.le_refl _) _).trans (hb4.mono (by simp only [World.size_alloc, World.size_drew]; omega))
              have hrY0 := (hN4.2.2.2.2.set5 (g := W3.heap.size) (by simp only [World.size_alloc, World.size_drew]; omega) (.int .u8 k4) (.int .i64 a4) (.string b4) (.int .u64 n4) (.slice ao4 yT.kids.length cap4)).rd
              exact ⟨_, k4, a4, b4, n4, ao4, cap4, rfl, rfl, rfl, q4.set5 (.int .u8 k4) (.int .i64 a4) (.string b4) (.int .u64 n4) (.slice ao4 yT.kids.length cap4), ⟨hN4.1, hN4.2.1, hN4.2.2.1, hN4.2.2.2.1, hrY0⟩, ((((hb340.setCell (p := ⟨W3.heap.size, 0, none⟩) (Nat.le_refl _) (.int .u8 k4)).setCell (p := ⟨W3.heap.size, 1, none⟩) (Nat.le_refl _) (.int .i64 a4)).setCell (p := ⟨W3.heap.size, 2, none⟩) (Nat.le_refl _) (.string b4)).setCell (p := ⟨W3.heap.size, 3, none⟩) (Nat.le_refl _) (.int .u64 n4)).setCell (p := ⟨W3.heap.size, 4, none⟩) (Nat.le_refl _) (.slice ao4 yT.kids.length cap4)⟩
          case rest =>
            obtain ⟨gY, k4, a4, b4, n4, ao4, cap4, rfl, rfl, rfl, oY, hRY, hb35⟩ := hcut
            obtain ⟨W5, hW5⟩ : ∃ W5, wc = W5 := ⟨_, rfl⟩
            subst hW5
            have HRY : Hid (NodeR wc yT k4 a4 b4 n4 (.slice ao4 yT.kids.length cap4)) := hRY
            have oX5 := oX.below hb35
            have HRX5 : Hid (NodeR wc x k1 a1 b1 n1 (.slice ao1 x.kids.length cap1)) := HRX.out.below hb35
            have HL5 : Hid (Laid wc) := HL3.out.on hb35
            have HB05 : Hid (Below w.heap.size w wc) := hb03.trans (hb35.mono hb03.size)
            clear hRY hb35 oX HRX HLd HLa HL3 HYR r1 r2 c3W hb03 hszy
            have r3 : ∀ W' : World, (Op.stringOp .add ⟨#[40]⟩ s).run Tryz.prog W' = .ok (.string (⟨#[40]⟩ ++ s)) W' := fun W' => run_string_add_sum W' _ _ (by rw [show ByteArray.size ⟨#[40]⟩ = 1 from rfl]; omega)
            have r4 : ∀ W' : World, (Op.stringOp .add (⟨#[40]⟩ ++ s) ⟨#[10, 41]⟩).run Tryz.prog W' = .ok (.string (⟨#[40]⟩ ++ s ++ ⟨#[10, 41]⟩)) W' := fun W' => run_string_add_sum W' _ _ (by rw [ByteArray.size_append, show ByteArray.size ⟨#[40]⟩ = 1 from rfl, show ByteArray.size ⟨#[10, 41]⟩ = 2 from rfl]; omega)
            obtain ⟨zT, hzT⟩ : ∃ zT, mapTr (shf 0 1) x = zT := ⟨_, rfl⟩
            have HZX : Hid (mapTr (shf 0 1) x = zT) := hzT
            rw [hzT] at HZZ
            clear hzT
            go_upto_region 9 with fail
            go_cut [15, 16, 17] (fun z pl h wx => ∃ gZ k6 a6 b6 n6 ao6 ln6 cap6 p6 e6, z = .pointer (some ⟨gZ, 0, none⟩) ∧ pl = .int .i64 p6 ∧ h = .int .i64 e6 ∧ Own wx gZ #[.int .u8 k6, .int .i64 a6, .string b6, .int .u64 n6, .slice ao6 ln6 cap6] 25 ∧ Below wc.heap.size wc wx ∧ (e6 = 41 ∨ (e6 = 0 ∧ ln6 = zT.kids.length ∧ NodeR wx zT k6 a6 b6 n6 (.slice ao6 ln6 cap6))))
            case first =>
              go_wp2_with fail
              refine (expr_is _ hszz TZ HZR wc HL5.out).mono ?_
              rintro en w6 ⟨hb6, hr6⟩
              rcases HZZ.out with ⟨p, rfl⟩ | rfl
              · obtain rfl : en = .returned (.tuple #[.agg #[.int .u8 0, .int .i64 0, .string ⟨#[]⟩, .int .u64 0, .slice none 0 0], .int .i64 (p : Int), .int .i64 ((41 : Nat) : Int)]) := hr6
                go_wp2_with fail
                go_meet
                exact ⟨_, 0, 0, ⟨#[]⟩, 0, none, 0, 0, _, _, rfl, rfl, rfl, Own.new w6 #[.int .u8 0, .int .i64 0, .string ⟨#[]⟩, .int .u64 0, .slice none 0 0] 25, hb6.alloc hb6.size _, .inl rfl⟩
              · obtain ⟨k6, a6, b6, n6, v6, rfl, hN6⟩ : ∃ k a b n v, en = .returned (.tuple #[.agg #[.int .u8 k, .int .i64 a, .string b, .int .u64 n, v], .int .i64 0, .int .i64 0]) ∧ NodeIs w6 _ zT k a b n v := hr6
                obtain ⟨ao6, cap6, rfl⟩ := hN6.q.shape
                have hb7 : Below w6.heap.size w6 (w6.alloc (.cells #[.int .u8 k6, .int .i64 a6, .string b6, .int .u64 n6, .slice ao6 zT.kids.length cap6] 25)) := (Below.refl w6.heap.size w6).alloc (Nat.le_refl _) _
                have hz6 := hN6.rd.below hb7
                clear hN6
                go_wp2_with fail
                go_meet
                exact ⟨_, k6, a6, b6, n6, ao6, _, cap6, _, _, rfl, rfl, rfl, Own.new w6 #[.int .u8 k6, .int .i64 a6, .string b6, .int .u64 n6, .slice ao6 zT.kids.length cap6] 25, hb6.trans (hb7.mono hb6.size), .inr ⟨rfl, rfl, hz6⟩⟩
            case rest =>
              obtain ⟨gZ, k6, a6, b6, n6, ao6, ln6, cap6, p6, e6, rfl, rfl, rfl, oZ7, hb57, hZ7⟩ := hcut
              have oX7 := oX5.below hb57
              have oY7 := oY.below hb57
              have HRXd : Hid (NodeR wc.drew x k1 a1 b1 n1 (.slice ao1 x.kids.length cap1)) := (HRX5.out.below hb57).below (below_drew2 (Below.refl _ _))
              have HRYd : Hid (NodeR wc.drew yT k4 a4 b4 n4 (.slice ao4 yT.kids.length cap4)) := (HRY.out.below hb57).below (below_drew2 (Below.refl _ _))
              have HLd7 : Hid (Laid wc.drew) := (HL5.out.on hb57).on (below_drew2 (Below.refl _ _))
              have HB07 : Hid (Below w.heap.size w wc.drew) := below_drew2 (HB05.out.trans (hb57.mono HB05.out.size))
              have HZ7 : Hid (e6 = 41 ∨ (e6 = 0 ∧ ln6 = zT.kids.length ∧ NodeR wc zT k6 a6 b6 n6 (.slice ao6 ln6 cap6))) := hZ7
              clear hZ7 hb57 oX5 oY HRX5 HRY HL5 HB05 HZR HZZ r3 r4 hszz
              obtain ⟨x0, x1, x2, x3, x4, xf⟩ := oX7.five
              obtain ⟨y0, y1, y2, y3, y4, yf⟩ := oY7.five
              have hlX := oX7.lt
              have hlY := oY7.lt
              rcases HZ7.out with rfl | ⟨rfl, rfl, hNZ⟩
              · obtain ⟨t0, t1, t2, t3, t4, tf⟩ := oZ7.five
                have hlZ := oZ7.lt
                clear HZ7
                go_upto_region 10 with fail
                refine wp_region_held_drew (S := (fun w' => w'.cell? ⟨w2.heap.size, 0, none⟩ = some (.int .u8 k1) ∧ w'.cell? ⟨w2.heap.size, 1, none⟩ = some (.int .i64 a1) ∧ w'.cell? ⟨w2.heap.size, 2, none⟩ = some (.string b1) ∧ w'.cell? ⟨w2.heap.size, 3, none⟩ = some (.int .u64 n1) ∧ w'.cell? ⟨w2.heap.size, 4, none⟩ = some (.slice ao1 x.kids.length cap1) ∧ w'.cell? ⟨gY, 0, none⟩ = some (.int .u8 k4) ∧ w'.cell? ⟨gY, 1, none⟩ = some (.int .i64 a4) ∧ w'.cell? ⟨gY, 2, none⟩ = some (.string b4) ∧ w'.cell? ⟨gY, 3, none⟩ = some (.int .u64 n4) ∧ w'.cell? ⟨gY, 4, none⟩ = some (.slice ao4 yT.kids.length cap4) ∧ w'.cell? ⟨gZ, 0, none⟩ = some (.int .u8 k6) ∧ w'.cell? ⟨gZ, 1, none⟩ = some (.int .i64 a6) ∧ w'.cell? ⟨gZ, 2, none⟩ = some (.string b6) ∧ w'.cell? ⟨gZ, 3, none⟩ = some (.int .u64 n6) ∧ w'.cell? ⟨gZ, 4, none⟩ = some (.slice ao6 ln6 cap6))) (by kernel_rfl) (by exact ⟨x0, x1, x2, x3, x4, y0, y1, y2, y3, y4, t0, t1, t2, t3, t4⟩) (fun hHeld => ?_)
                refine wpAnyH_take (i := 0) (v := ?v0) rfl (by kernel_rfl) (by kernel_rfl) (by kernel_rfl) (fun _ _ _ h => h) (Or.inl ⟨by rfl, ?hy0⟩) (by assumption) ?rest0
                case hy0 => (intro wS hSw; (try dsimp only at hSw); go_simp; try with_reducible rfl)
                try simp only [Act.put, List.getElem_toArray, List.getElem_cons_zero, List.getElem_cons_succ, List.setIfInBounds_toArray, List.set_cons_zero, List.set_cons_succ]
                refine wpAnyH_take (i := 1) (v := ?v1) rfl (by kernel_rfl) (by kernel_rfl) (by kernel_rfl) (fun _ _ _ h => h) (Or.inl ⟨by rfl, ?hy1⟩) (by assumption) ?rest1
                case hy1 => (intro wS hSw; (try dsimp only at hSw); go_simp; try with_reducible rfl)
                try simp only [Act.put, List.getElem_toArray, List.getElem_cons_zero, List.getElem_cons_succ, List.setIfInBounds_toArray, List.set_cons_zero, List.set_cons_succ]
                refine wpAnyH_take (i := 2) (v := ?v2) rfl (by kernel_rfl) (by kernel_rfl) (by kernel_rfl) (fun _ _ _ h => h) (Or.inl ⟨by rfl, ?hy2⟩) (by assumption) ?rest2
                case hy2 => (intro wS hSw; (try dsimp only at hSw); go_simp; try with_reducible rfl)
                try simp only [Act.put, List.getElem_toArray, List.getElem_cons_zero, List.getElem_cons_succ, List.setIfInBounds_toArray, List.set_cons_zero, List.set_cons_succ]
                refine wpAnyH_take (i := 3) (v := ?v3) rfl (by kernel_rfl) (by kernel_rfl) (by kernel_rfl) (fun _ _ _ h => h) (Or.inl ⟨by rfl, ?hy3⟩) (by assumption) ?rest3
                case hy3 => (intro wS hSw; (try dsimp only at hSw); go_simp; try with_reducible rfl)
                try simp only [Act.put, List.getElem_toArray, List.getElem_cons_zero, List.getElem_cons_succ, List.setIfInBounds_toArray, List.set_cons_zero, List.set_cons_succ]
                refine wpAnyH_take (i := 4) (v := ?v4) rfl (by kernel_rfl) (by kernel_rfl) (by kernel_rfl) (fun _ _ _ h => h) (Or.inl ⟨by rfl, ?hy4⟩) (by assumption) ?rest4
                case hy4 => (intro wS hSw; (try dsimp only at hSw); go_simp; try with_reducible rfl)
                try simp only [Act.put, List.getElem_toArray, List.getElem_cons_zero, List.getElem_cons_succ, List.setIfInBounds_toArray, List.set_cons_zero, List.set_cons_succ]
                refine wpAnyH_take (i := 5) (v := ?v5) rfl (by kernel_rfl) (by kernel_rfl) (by kernel_rfl) (fun _ _ _ h => h) (Or.inl ⟨by rfl, ?hy5⟩) (by assumption) ?rest5
                case hy5 => (intro wS hSw; (try dsimp only at hSw); go_simp; try with_reducible rfl)
                try simp only [Act.put, List.getElem_toArray, List.getElem_cons_zero, List.getElem_cons_succ, List.setIfInBounds_toArray, List.set_cons_zero, List.set_cons_succ]
                refine wpAnyH_ready (rs := [6]) (by kernel_rfl) (by simp) ?_
                refine AllReadyH.cons rfl (fun KK hKK => ?_) AllReadyH.nil
                go_simp
                go_at_call 14
                refine (shifted_as (P : Int) 6 _ x (Nat.le_refl _) HGX.out wc.drew _ _ _ _ _ HRXd.out).mono ?_
                rintro en w8 ⟨k8, a8, b8, n8, v8, rfl, hN8, hb8⟩
                rw [HYX.out] at hN8
                obtain ⟨ao8, cap8, rfl⟩ := hN8.q.shape
                have HR8 : Hid (NodeR w8 yT k8 a8 b8 n8 (.slice ao8 yT.kids.length cap8)) := hN8.rd
                have HRY8 : Hid (NodeR w8 yT k4 a4 b4 n4 (.slice ao4 yT.kids.length cap4)) := HRYd.out.below hb8
                have HL8 : Hid (Laid w8) := HLd7.out.on hb8
                have HB8 : Hid (Below w.heap.size w w8) := HB07.out.trans (hb8.mono HB07.out.size)
                have oX8 := oX7.drew.below hb8
                obtain ⟨x8a, x8b, x8c, x8d, x8e, x8f⟩ := oX8.five
                clear x0 x1 x2 x3 x4 xf
                have oY8 := oY7.drew.below hb8
                obtain ⟨y8a, y8b, y8c, y8d, y8e, y8f⟩ := oY8.five
                clear y0 y1 y2 y3 y4 yf
                have oZ8 := oZ7.drew.below hb8
                obtain ⟨t8a, t8b, t8c, t8d, t8e, t8f⟩ := oZ8.five
                clear t0 t1 t2 t3 t4 tf
                clear hN8 hb8
                try go_wp2_with fail
                refine hKK.out _ _ (by exact ⟨x8a, x8b, x8c, x8d, x8e, y8a, y8b, y8c, y8d, y8e, t8a, t8b, t8c, t8d, t8e⟩) (fun hHeld1 => ?_)
                clear hKK KK
                try simp only [Act.put, List.getElem_toArray, List.getElem_cons_zero, List.getElem_cons_succ, List.setIfInBounds_toArray, List.set_cons_zero, List.set_cons_succ]
                refine wpAnyH_ready (rs := [7]) (by kernel_rfl) (by simp) ?_
                refine AllReadyH.cons rfl (fun KK hKK => ?_) AllReadyH.nil
                go_simp
                go_at_call 12
                have hz0 := HL8
                clear hz0
                refine (kSameNode_as (eqv_refl true yT) w8 _ _ _ _ _ _ _ _ _ _ HRY8.out HR8.out).mono ?_
                rintro en w9 ⟨rfl, hb9⟩
                have HL9 : Hid (Laid w9) := HL8.out.on hb9
                have HB9 : Hid (Below w.heap.size w w9) := HB8.out.trans (hb9.mono HB8.out.size)
                have oX9 := oX8.below hb9
                obtain ⟨x9a, x9b, x9c, x9d, x9e, x9f⟩ := oX9.five
                clear x8a x8b x8c x8d x8e x8f oX8
                have oY9 := oY8.below hb9
                obtain ⟨y9a, y9b, y9c, y9d, y9e, y9f⟩ := oY9.five
                clear y8a y8b y8c y8d y8e y8f oY8
                have oZ9 := oZ8.below hb9
                obtain ⟨t9a, t9b, t9c, t9d, t9e, t9f⟩ := oZ9.five
                clear t8a t8b t8c t8d t8e t8f oZ8
                clear hb9
                try go_wp2_with fail
                refine hKK.out _ _ (by exact ⟨x9a, x9b, x9c, x9d, x9e, y9a, y9b, y9c, y9d, y9e, t9a, t9b, t9c, t9d, t9e⟩) (fun hHeld2 => ?_)
                clear hKK KK
                try simp only [Act.put, List.getElem_toArray, List.getElem_cons_zero, List.getElem_cons_succ, List.setIfInBounds_toArray, List.set_cons_zero, List.set_cons_succ]
                refine wpAnyH_take (i := 8) (v := ?v8) rfl (by kernel_rfl) (by kernel_rfl) (by kernel_rfl) (fun _ _ _ h => h) (Or.inl ⟨by rfl, ?hy8⟩) (by assumption) ?rest8
                case hy8 => (intro wS hSw; (try dsimp only at hSw); go_simp; try with_reducible rfl)
                try simp only [Act.put, List.getElem_toArray, List.getElem_cons_zero, List.getElem_cons_succ, List.setIfInBounds_toArray, List.set_cons_zero, List.set_cons_succ]
                refine wpAnyH_take (i := 9) (v := ?v9) rfl (by kernel_rfl) (by kernel_rfl) (by kernel_rfl) (fun _ _ _ h => h) (Or.inl ⟨by rfl, ?hy9⟩) (by assumption) ?rest9
                case hy9 => (intro wS hSw; (try dsimp only at hSw); go_simp; try with_reducible rfl)
                try simp only [Act.put, List.getElem_toArray, List.getElem_cons_zero, List.getElem_cons_succ, List.setIfInBounds_toArray, List.set_cons_zero, List.set_cons_succ]
                refine wpAnyH_take (i := 10) (v := ?v10) rfl (by kernel_rfl) (by kernel_rfl) (by kernel_rfl) (fun _ _ _ h => h) (Or.inl ⟨by rfl, ?hy10⟩) (by assumption) ?rest10
                case hy10 => (intro wS hSw; (try dsimp only at hSw); go_simp; try with_reducible rfl)
                try simp only [Act.put, List.getElem_toArray, List.getElem_cons_zero, List.getElem_cons_succ, List.setIfInBounds_toArray, List.set_cons_zero, List.set_cons_succ]
                refine wpAnyH_take (i := 11) (v := ?v11) rfl (by kernel_rfl) (by kernel_rfl) (by kernel_rfl) (fun _ _ _ h => h) (Or.inl ⟨by rfl, ?hy11⟩) (by assumption) ?rest11
                case hy11 => (intro wS hSw; (try dsimp only at hSw); go_simp; try with_reducible rfl)
                try simp only [Act.put, List.getElem_toArray, List.getElem_cons_zero, List.getElem_cons_succ, List.setIfInBounds_toArray, List.set_cons_zero, List.set_cons_succ]
                refine wpAnyH_take (i := 12) (v := ?v12) rfl (by kernel_rfl) (by kernel_rfl) (by kernel_rfl) (fun _ _ _ h => h) (Or.inl ⟨by rfl, ?hy12⟩) (by assumption) ?rest12
                case hy12 => (intro wS hSw; (try dsimp only at hSw); go_simp; try with_reducible rfl)
                try simp only [Act.put, List.getElem_toArray, List.getElem_cons_zero, List.getElem_cons_succ, List.setIfInBounds_toArray, List.set_cons_zero, List.set_cons_succ]
                refine wpAnyH_take (i := 13) (v := undef) rfl (by kernel_rfl) (by kernel_rfl) (by kernel_rfl) (fun _ _ _ h => h) (Or.inr ⟨by rfl, rfl⟩) (by assumption) ?rest13
                try simp only [Act.put, List.getElem_toArray, List.getElem_cons_zero, List.getElem_cons_succ, List.setIfInBounds_toArray, List.set_cons_zero, List.set_cons_succ]
                refine wpAnyH_take (i := 14) (v := undef) rfl (by kernel_rfl) (by kernel_rfl) (by kernel_rfl) (fun _ _ _ h => h) (Or.inr ⟨by rfl, rfl⟩) (by assumption) ?rest14
                try simp only [Act.put, List.getElem_toArray, List.getElem_cons_zero, List.getElem_cons_succ, List.setIfInBounds_toArray, List.set_cons_zero, List.set_cons_succ]
                refine wpAnyH_take (i := 15) (v := undef) rfl (by kernel_rfl) (by kernel_rfl) (by kernel_rfl) (fun _ _ _ h => h) (Or.inr ⟨by rfl, rfl⟩) (by assumption) ?rest15
                try simp only [Act.put, List.getElem_toArray, List.getElem_cons_zero, List.getElem_cons_succ, List.setIfInBounds_toArray, List.set_cons_zero, List.set_cons_succ]
                refine wpAnyH_take (i := 16) (v := undef) rfl (by kernel_rfl) (by kernel_rfl) (by kernel_rfl) (fun _ _ _ h => h) (Or.inr ⟨by rfl, rfl⟩) (by assumption) ?rest16
                try simp only [Act.put, List.getElem_toArray, List.getElem_cons_zero, List.getElem_cons_succ, List.setIfInBounds_toArray, List.set_cons_zero, List.set_cons_succ]
                refine wpAnyH_take (i := 17) (v := undef) rfl (by kernel_rfl) (by kernel_rfl) (by kernel_rfl) (fun _ _ _ h => h) (Or.inr ⟨by rfl, rfl⟩) (by assumption) ?rest17
                try simp only [Act.put, List.getElem_toArray, List.getElem_cons_zero, List.getElem_cons_succ, List.setIfInBounds_toArray, List.set_cons_zero, List.set_cons_succ]
                refine wpAnyH_ready (rs := [18]) (by kernel_rfl) (by simp) ?_
                refine AllReadyH.cons rfl (fun KK hKK => ?_) AllReadyH.nil
                split
                · rename_i hw; exact absurd (show false = true from hw) (by decide)
                refine hKK.out _ _ (by exact ⟨x9a, x9b, x9c, x9d, x9e, y9a, y9b, y9c, y9d, y9e, t9a, t9b, t9c, t9d, t9e⟩) (fun hHeld3 => ?_)
                clear hKK KK
                try simp only [Act.put, List.getElem_toArray, List.getElem_cons_zero, List.getElem_cons_succ, List.setIfInBounds_toArray, List.set_cons_zero, List.set_cons_succ]
                refine wpAnyH_ready (rs := [19]) (by kernel_rfl) (by simp) ?_
                refine AllReadyH.cons rfl (fun KK hKK => ?_) AllReadyH.nil
                split
                · rename_i hw; exact absurd (show false = true from hw) (by decide)
                refine hKK.out _ _ (by exact ⟨x9a, x9b, x9c, x9d, x9e, y9a, y9b, y9c, y9d, y9e, t9a, t9b, t9c, t9d, t9e⟩) (fun hHeld4 => ?_)
                clear hKK KK
                try simp only [Act.put, List.getElem_toArray, List.getElem_cons_zero, List.getElem_cons_succ, List.setIfInBounds_toArray, List.set_cons_zero, List.set_cons_succ]
                refine wpAnyH_take (i := 20) (v := undef) rfl (by kernel_rfl) (by kernel_rfl) (by kernel_rfl) (fun _ _ _ h => h) (Or.inr ⟨by rfl, rfl⟩) (by assumption) ?rest20
                try simp only [Act.put, List.getElem_toArray, List.getElem_cons_zero, List.getElem_cons_succ, List.setIfInBounds_toArray, List.set_cons_zero, List.set_cons_succ]
                refine wpAnyH_take (i := 21) (v := ?v21) rfl (by kernel_rfl) (by kernel_rfl) (by kernel_rfl) (fun _ _ _ h => h) (Or.inl ⟨by rfl, ?hy21⟩) (by assumption) ?rest21
                case hy21 => (intro wS hSw; (try dsimp only at hSw); go_simp; try with_reducible rfl)
                try simp only [Act.put, List.getElem_toArray, List.getElem_cons_zero, List.getElem_cons_succ, List.setIfInBounds_toArray, List.set_cons_zero, List.set_cons_succ]
                refine wpAnyH_take (i := 22) (v := ?v22) rfl (by kernel_rfl) (by kernel_rfl) (by kernel_rfl) (fun _ _ _ h => h) (Or.inl ⟨by rfl, ?hy22⟩) (by assumption) ?rest22
                case hy22 => (intro wS hSw; (try dsimp only at hSw); go_simp; try with_reducible rfl)
                try simp only [Act.put, List.getElem_toArray, List.getElem_cons_zero, List.getElem_cons_succ, List.setIfInBounds_toArray, List.set_cons_zero, List.set_cons_succ]
                refine wpAnyH_take (i := 23) (v := ?v23) rfl (by kernel_rfl) (by kernel_rfl) (by kernel_rfl) (fun _ _ _ h => h) (Or.inl ⟨by rfl, ?hy23⟩) (by assumption) ?rest23
                case hy23 => (intro wS hSw; (try dsimp only at hSw); go_simp; try with_reducible rfl)
                try simp only [Act.put, List.getElem_toArray, List.getElem_cons_zero, List.getElem_cons_succ, List.setIfInBounds_toArray, List.set_cons_zero, List.set_cons_succ]
                refine wpAnyH_ready (rs := [24]) (by kernel_rfl) (by simp) ?_
                refine AllReadyH.cons rfl (fun KK hKK => ?_) AllReadyH.nil
                go_simp
                go_at_call 11
                refine (works_any w9 HL9).mono ?_
                rintro en w12 ⟨rfl, hb12⟩
                have HB12 : Hid (Below w.heap.size w w12) := HB9.out.trans (hb12.mono HB9.out.size)
                have oX12 := oX9.below hb12
                obtain ⟨x12a, x12b, x12c, x12d, x12e, x12f⟩ := oX12.five
                clear x9a x9b x9c x9d x9e x9f oX9
                have oY12 := oY9.below hb12
                obtain ⟨y12a, y12b, y12c, y12d, y12e, y12f⟩ := oY12.five
                clear y9a y9b y9c y9d y9e y9f oY9
                have oZ12 := oZ9.below hb12
                obtain ⟨t12a, t12b, t12c, t12d, t12e, t12f⟩ := oZ12.five
                clear t9a t9b t9c t9d t9e t9f oZ9
                clear hb12
                try go_wp2_with fail
                refine hKK.out _ _ (by exact ⟨x12a, x12b, x12c, x12d, x12e, y12a, y12b, y12c, y12d, y12e, t12a, t12b, t12c, t12d, t12e⟩) (fun hHeld5 => ?_)
                clear hKK KK
                try simp only [Act.put, List.getElem_toArray, List.getElem_cons_zero, List.getElem_cons_succ, List.setIfInBounds_toArray, List.set_cons_zero, List.set_cons_succ]
                refine wpAnyH_take (i := 25) (v := ?v25) rfl (by kernel_rfl) (by kernel_rfl) (by kernel_rfl) (fun _ _ _ h => h) (Or.inl ⟨by rfl, ?hy25⟩) (by assumption) ?rest25
                case hy25 => (intro wS hSw; (try dsimp only at hSw); go_simp; try with_reducible rfl)
                try simp only [Act.put, List.getElem_toArray, List.getElem_cons_zero, List.getElem_cons_succ, List.setIfInBounds_toArray, List.set_cons_zero, List.set_cons_succ]
                refine wpAnyH_take (i := 26) (v := ?v26) rfl (by kernel_rfl) (by kernel_rfl) (by kernel_rfl) (fun _ _ _ h => h) (Or.inl ⟨by rfl, ?hy26⟩) (by assumption) ?rest26
                case hy26 => (intro wS hSw; (try dsimp only at hSw); go_simp; try with_reducible rfl)
                try simp only [Act.put, List.getElem_toArray, List.getElem_cons_zero, List.getElem_cons_succ, List.setIfInBounds_toArray, List.set_cons_zero, List.set_cons_succ]
                refine wpAnyH_done (by kernel_rfl) ?_ _
                go_wp2
                go_ret
                exact ⟨rfl, HB12.out⟩
              · obtain ⟨t0, t1, t2, t3, t4, tf⟩ := oZ7.five
                have hlZ := oZ7.lt
                have HRZd : Hid (NodeR wc.drew zT k6 a6 b6 n6 (.slice ao6 zT.kids.length cap6)) := hNZ.below (below_drew2 (Below.refl _ _))
                clear hNZ HZ7
                go_upto_region 10 with fail
                first | (go_region_held3 (fun w' => w'.cell? ⟨w2.heap.size, 0, none⟩ = some (.int .u8 k1) ∧ w'.cell? ⟨w2.heap.size, 1, none⟩ = some (.int .i64 a1) ∧ w'.cell? ⟨w2.heap.size, 2, none⟩ = some (.string b1) ∧ w'.cell? ⟨w2.heap.size, 3, none⟩ = some (.int .u64 n1) ∧ w'.cell? ⟨w2.heap.size, 4, none⟩ = some (.slice ao1 x.kids.length cap1) ∧ w'.cell? ⟨gY, 0, none⟩ = some (.int .u8 k4) ∧ w'.cell? ⟨gY, 1, none⟩ = some (.int .i64 a4) ∧ w'.cell? ⟨gY, 2, none⟩ = some (.string b4) ∧ w'.cell? ⟨gY, 3, none⟩ = some (.int .u64 n4) ∧ w'.cell? ⟨gY, 4, none⟩ = some (.slice ao4 yT.kids.length cap4) ∧ w'.cell? ⟨gZ, 0, none⟩ = some (.int .u8 k6) ∧ w'.cell? ⟨gZ, 1, none⟩ = some (.int .i64 a6) ∧ w'.cell? ⟨gZ, 2, none⟩ = some (.string b6) ∧ w'.cell? ⟨gZ, 3, none⟩ = some (.int .u64 n6) ∧ w'.cell? ⟨gZ, 4, none⟩ = some (.slice ao6 zT.kids.length cap6)) ((first | exact ⟨x12a, x12b, x12c, x12d, x12e, y12a, y12b, y12c, y12d, y12e, t12a, t12b, t12c, t12d, t12e⟩ | exact ⟨x11a, x11b, x11c, x11d, x11e, y11a, y11b, y11c, y11d, y11e, t11a, t11b, t11c, t11d, t11e⟩ | exact ⟨x10a, x10b, x10c, x10d, x10e, y10a, y10b, y10c, y10d, y10e, t10a, t10b, t10c, t10d, t10e⟩ | exact ⟨x9a, x9b, x9c, x9d, x9e, y9a, y9b, y9c, y9d, y9e, t9a, t9b, t9c, t9d, t9e⟩ | exact ⟨x8a, x8b, x8c, x8d, x8e, y8a, y8b, y8c, y8d, y8e, t8a, t8b, t8c, t8d, t8e⟩ | exact ⟨x0, x1, x2, x3, x4, y0, y1, y2, y3, y4, t0, t1, t2, t3, t4⟩)) (first | (go_at_call 11; refine (works_any w11 HL11).mono ?_; rintro en w12 ⟨rfl, hb12⟩; have HB12 : Hid (Below w.heap.size w w12) := HB11.out.trans (hb12.mono HB11.out.size); have oX12 := oX11.below hb12; obtain ⟨x12a, x12b, x12c, x12d, x12e, x12f⟩ := oX12.five; clear x11a x11b x11c x11d x11e x11f oX11; have oY12 := oY11.below hb12; obtain ⟨y12a, y12b, y12c, y12d, y12e, y12f⟩ := oY12.five; clear y11a y11b y11c y11d y11e y11f oY11; have oZ12 := oZ11.below hb12; obtain ⟨t12a, t12b, t12c, t12d, t12e, t12f⟩ := oZ12.five; clear t11a t11b t11c t11d t11e t11f oZ11; clear hb12) | (go_at_call 12; have hz0 := HL10; clear hz0; refine (kSameNode_as (eqv_refl true zT) w10 _ _ _ _ _ _ _ _ _ _ HRZ10.out HR10.out).mono ?_; rintro en w11 ⟨rfl, hb11⟩; have HL11 : Hid (Laid w11) := HL10.out.on hb11; have HB11 : Hid (Below w.heap.size w w11) := HB10.out.trans (hb11.mono HB10.out.size); have oX11 := oX10.below hb11; obtain ⟨x11a, x11b, x11c, x11d, x11e, x11f⟩ := oX11.five; clear x10a x10b x10c x10d x10e x10f oX10; have oY11 := oY10.below hb11; obtain ⟨y11a, y11b, y11c, y11d, y11e, y11f⟩ := oY11.five; clear y10a y10b y10c y10d y10e y10f oY10; have oZ11 := oZ10.below hb11; obtain ⟨t11a, t11b, t11c, t11d, t11e, t11f⟩ := oZ11.five; clear t10a t10b t10c t10d t10e t10f oZ10; clear hb11) | (go_at_call 14; have hz0 := HL9; clear hz0; refine (shifted_as 0 1 _ x (Nat.le_refl _) HGX.out w9 _ _ _ _ _ HRX9.out).mono ?_; rintro en w10 ⟨k10, a10, b10, n10, v10, rfl, hN10, hb10⟩; rw [HZX.out] at hN10; obtain ⟨ao10, cap10, rfl⟩ := hN10.q.shape; have HR10 : Hid (NodeR w10 zT k10 a10 b10 n10 (.slice ao10 zT.kids.length cap10)) := hN10.rd; have HRZ10 : Hid (NodeR w10 zT k6 a6 b6 n6 (.slice ao6 zT.kids.length cap6)) := HRZ9.out.below hb10; have HL10 : Hid (Laid w10) := HL9.out.on hb10; have HB10 : Hid (Below w.heap.size w w10) := HB9.out.trans (hb10.mono HB9.out.size); have oX10 := oX9.below hb10; obtain ⟨x10a, x10b, x10c, x10d, x10e, x10f⟩ := oX10.five; clear x9a x9b x9c x9d x9e x9f oX9; have oY10 := oY9.below hb10; obtain ⟨y10a, y10b, y10c, y10d, y10e, y10f⟩ := oY10.five; clear y9a y9b y9c y9d y9e y9f oY9; have oZ10 := oZ9.below hb10; obtain ⟨t10a, t10b, t10c, t10d, t10e, t10f⟩ := oZ10.five; clear t9a t9b t9c t9d t9e t9f oZ9; clear hN10 hb10) | (go_at_call 12; have hz0 := HL8; clear hz0; refine (kSameNode_as (eqv_refl true yT) w8 _ _ _ _ _ _ _ _ _ _ HRY8.out HR8.out).mono ?_; rintro en w9 ⟨rfl, hb9⟩; have HL9 : Hid (Laid w9) := HL8.out.on hb9; have HB9 : Hid (Below w.heap.size w w9) := HB8.out.trans (hb9.mono HB8.out.size); have HRX9 : Hid (NodeR w9 x k1 a1 b1 n1 (.slice ao1 x.kids.length cap1)) := HRX8.out.below hb9; have HRZ9 : Hid (NodeR w9 zT k6 a6 b6 n6 (.slice ao6 zT.kids.length cap6)) := HRZ8.out.below hb9; have oX9 := oX8.below hb9; obtain ⟨x9a, x9b, x9c, x9d, x9e, x9f⟩ := oX9.five; clear x8a x8b x8c x8d x8e x8f oX8; have oY9 := oY8.below hb9; obtain ⟨y9a, y9b, y9c, y9d, y9e, y9f⟩ := oY9.five; clear y8a y8b y8c y8d y8e y8f oY8; have oZ9 := oZ8.below hb9; obtain ⟨t9a, t9b, t9c, t9d, t9e, t9f⟩ := oZ9.five; clear t8a t8b t8c t8d t8e t8f oZ8; clear hb9) | (go_at_call 14; refine (shifted_as (P : Int) 6 _ x (Nat.le_refl _) HGX.out wc.drew _ _ _ _ _ HRXd.out).mono ?_; rintro en w8 ⟨k8, a8, b8, n8, v8, rfl, hN8, hb8⟩; rw [HYX.out] at hN8; obtain ⟨ao8, cap8, rfl⟩ := hN8.q.shape; have HR8 : Hid (NodeR w8 yT k8 a8 b8 n8 (.slice ao8 yT.kids.length cap8)) := hN8.rd; have HRY8 : Hid (NodeR w8 yT k4 a4 b4 n4 (.slice ao4 yT.kids.length cap4)) := HRYd.out.below hb8; have HL8 : Hid (Laid w8) := HLd7.out.on hb8; have HB8 : Hid (Below w.heap.size w w8) := HB07.out.trans (hb8.mono HB07.out.size); have HRX8 : Hid (NodeR w8 x k1 a1 b1 n1 (.slice ao1 x.kids.length cap1)) := HRXd.out.below hb8; have HRZ8 : Hid (NodeR w8 zT k6 a6 b6 n6 (.slice ao6 zT.kids.length cap6)) := HRZd.out.below hb8; have oX8 := oX7.drew.below hb8; obtain ⟨x8a, x8b, x8c, x8d, x8e, x8f⟩ := oX8.five; clear x0 x1 x2 x3 x4 xf; have oY8 := oY7.drew.below hb8; obtain ⟨y8a, y8b, y8c, y8d, y8e, y8f⟩ := oY8.five; clear y0 y1 y2 y3 y4 yf; have oZ8 := oZ7.drew.below hb8; obtain ⟨t8a, t8b, t8c, t8d, t8e, t8f⟩ := oZ8.five; clear t0 t1 t2 t3 t4 tf; clear hN8 hb8) | fail)) | fail
                all_goals
                  go_wp2
                  go_ret
                  exact ⟨rfl, HB12.out⟩
end Go.Proofs.YtkagkofgfjhfgaaGreatDoor
