import Derived.Test.YtmhnbklchnnbaaaGreatDoorQ43
import Derived.Test.YtmhnbklchnnbaaaGreatDoorJPNode
import Derived.Test.YtmhnbklchnnbaaaGreatDoorPPart9
import Derived.Test.YtmhnbklchnnbaaaGreatDoorJPart11
import Derived.Test.YtmhnbklchnnbaaaGreatDoorPStmt8
import Derived.Test.YtmhnbklchnnbaaaGreatDoorJStmt9
import Derived.Test.YtmhnbklchnnbaaaGreatDoorQ19
import Derived.Test.YtmhnbklchnnbaaaGreatDoorJCkCheck
import Derived.Test.YtmhnbklchnnbaaaGreatDoorQ17
set_option maxHeartbeats 8000000
set_option maxRecDepth 100000
namespace Go.Proofs.YtmhnbklchnnbaaaGreatDoor
open Go.RowKit
set_option linter.unusedVariables false
set_option linter.unusedSimpArgs false
theorem cnt_pos (t : Tree) : 1 ≤ cntT t := by obtain ⟨k, a, x, n, ks⟩ := t; rw [cntT]; omega
def ChRel (w : World) (q : Bool) (g : Nat) (tv : Value) (wr : World) : Prop := ∃ (u : Tree) (aj : Option Addr) (cj : Nat) (c : Nat), tv = .int .i64 (c : Int) ∧ c + g ≤ 9223372036854775807 ∧ cntT u ≤ g ∧ Own wr w.heap.size #[.int .u8 (u.kind : Int), .int .i64 u.at_, .string (strN u.text), .int .u64 (u.n : Int), .slice aj u.kids.length cj] 25 ∧ Fl w u (u.kind : Int) u.at_ (strN u.text) (u.n : Int) aj u.kids.length cj ∧ Below w.heap.size w wr ∧ vR 2 u = true ∧ chainB (decide (0 < c)) u = q
theorem chain_kid {u : Tree} (h : u.kind = 48 ∨ u.kind = 49) (hv : vR 2 u = true) : ∃ t0 ks, u.kids = t0 :: ks ∧ vR 2 t0 = true ∧ ∀ b, chainB b u = chainB true t0 := by
  obtain ⟨k, a, x, n, ks⟩ := u
  simp only [] at h
  rw [vR_2, valid_core] at hv
  rcases h with rfl | rfl
  · match ks with
    | [] => simp [coreT, kidsI] at hv
    | t0 :: ts =>
      refine ⟨t0, ts, rfl, ?_, fun b => by simp [chainB, chainB.chainL]⟩
      simp [coreT, validT.validL, asksI, pickI, eitherI] at hv
      exact hv.2.2.1
  · match ks with
    | [] => simp [coreT, kidsI] at hv
    | t0 :: ts =>
      refine ⟨t0, ts, rfl, ?_, fun b => by simp [chainB, chainB.chainL]⟩
      simp [coreT, validT.validL, asksI, pickI, eitherI] at hv
      exact hv.2.2.1
def ChAs (t : Tree) : Prop := ∀ (w : World) (k a : Int) (b : ByteArray) (n : Int) (v : Value), NodeR w t k a b n v → Calls Tryz.prog 34 #[.agg #[.int .u8 k, .int .i64 a, .string b, .int .u64 n, v]] w fun en w' => en = .returned (.bool (vR 19 t)) ∧ Below w.heap.size w w'
theorem zchain_as (t : Tree) (hw : wideTr t) (hc : cntT t ≤ 1000000000) (H2 : IsAs 2 t) : ChAs t := by
  intro w k a b n v hN
  obtain ⟨ao, m, cap, rfl, hF⟩ := Fl.of hN hw
  have HF : Hid (Fl w t k a b n ao m cap) := hF
  have hk := hF.kind
  have hm1 := hF.2.2.2.1
  have hm2 := hF.2.2.2.2
  have o0 := Own.new w #[.int .u8 k, .int .i64 a, .string b, .int .u64 n, .slice ao m cap] 25
  have hb0 : Below w.heap.size w (w.alloc (.cells #[.int .u8 k, .int .i64 a, .string b, .int .u64 n, .slice ao m cap] 25)) := (Below.refl _ _).alloc (Nat.le_refl _) _
  obtain ⟨q2, hq2⟩ : ∃ q, vR 2 t = q := ⟨_, rfl⟩
  have C2 : ∀ W : World, Below w.heap.size w W → Calls Tryz.prog 14 #[.agg #[.int .u8 k, .int .i64 a, .string b, .int .u64 n, .slice ao m cap], .int .i64 2] W fun en w' => en = .returned (.bool q2) ∧ Below W.heap.size W w' := fun W hW => by have := H2 W k a b n (.slice ao m cap) (HF.out.below hW).1; rw [hq2] at this; exact this
  obtain ⟨q, hq⟩ : ∃ q, chainB false t = q := ⟨_, rfl⟩
  have HS : Hid (vR 19 t = (q2 && q)) := by unfold Hid; rw [vR_19, (chain_17 _ t (Nat.le_refl _)).1, hq2, hq]
  have HQ2 : Hid (vR 2 t = q2) := hq2
  have HQ : Hid (chainB false t = q) := hq
  clear hq2 hq hF hN hk
  go_enter Tryz.func34, Tryz.ntmps34
  go_wp2_with fail
  refine (C2 _ hb0).mono ?_
  rintro en w1 ⟨rfl, hb1'⟩
  have o1 := o0.below hb1'
  have hb1 := hb0.trans (hb1'.mono hb0.size)
  obtain ⟨p10, p11, p12, p13, p14, p15⟩ := o1.five
  have hl1 := o1.lt
  clear hb1'
  cases q2 with
  | false =>
    go_wp2
    go_ret
    exact ⟨ret_bool (by rw [HS.out] <;> rfl), hb1⟩
  | true =>
    have ho : Own w1 w.heap.size #[.int .u8 (t.kind : Int), .int .i64 t.at_, .string (strN t.text), .int .u64 (t.n : Int), .slice ao t.kids.length cap] 25 := by have h := HF.out; obtain ⟨⟨e1, e2, e3, e4, _⟩, e5, _⟩ := h; rw [← e1, ← e2, ← e3, ← e4, e5]; exact o1
    have hFl : Fl w t (t.kind : Int) t.at_ (strN t.text) (t.n : Int) ao t.kids.length cap := by have h := HF.out; obtain ⟨⟨e1, e2, e3, e4, e6⟩, e5, e7⟩ := h; refine ⟨⟨rfl, rfl, rfl, rfl, by rw [e5]; exact e6⟩, rfl, e7.1, by rw [e5]; exact e7.2⟩
    go_wp2_with fail
    go_loopg [3] (cntT t) (fun g tv wr => ChRel w q g tv wr)
    case atStart => exact ⟨t, ao, cap, 0, rfl, by omega, Nat.le_refl _, ho, hFl, hb1, HQ2.out, HQ.out⟩
    case round =>
      clear ho hFl o0 o1 hb0 hb1 p10 p11 p12 p13 p14 p15 hl1 C2
      obtain ⟨u, aj, cj, c, rfl, hcg, hcnt, o0, hFu, hb0, hv, hch⟩ := hrel
      have HFU : Hid (Fl w u (u.kind : Int) u.at_ (strN u.text) (u.n : Int) aj u.kids.length cj) := hFu
      have HV : Hid (vR 2 u = true) := hv
      have HCH : Hid (chainB (decide (0 < c)) u = q) := hch
      have HCN : Hid (cntT u ≤ gk) := hcnt
      have hg1 : 1 ≤ gk := Nat.le_trans (cnt_pos u) hcnt
      obtain ⟨p00, p01, p02, p03, p04, p05⟩ := o0.five
      have hl0 := o0.lt
      have HSQ : Hid (vR 19 t = q) := by unfold Hid; rw [HS.out]; rfl
      clear hFu hv hch hcnt HS
      obtain ⟨kz, hkz⟩ : ∃ kz : Int, (u.kind : Int) = kz := ⟨_, rfl⟩
      have HKZ : Hid ((u.kind : Int) = kz) := hkz
      rw [hkz] at o0 p00
      clear hkz
      by_cases h44 : kz = 44
      · have hqt : q = true := by
          rw [← HCH.out]
          have := HKZ.out
          obtain ⟨uk, ua, ux, un, us⟩ := u
          have e : uk = 44 := by simp only [] at this; omega
          subst e
          simp [chainB]
        subst hqt h44
        go_wp2
        go_ret
        exact ⟨ret_bool (by rw [HSQ.out]), hb0⟩
      · by_cases h45 : kz = 45
        · have hqt : q = decide (0 < c) := by
            rw [← HCH.out]
            have := HKZ.out
            obtain ⟨uk, ua, ux, un, us⟩ := u
            have e : uk = 45 := by simp only [] at this; omega
            subst e
            simp [chainB]
          subst h45
          have hci : decide ((0 : Int) < (c : Int)) = decide (0 < c) := by simp
          clear h44
          cases hd : decide (0 < c) with
          | true =>
            rw [hd] at hci hqt
            subst hqt
            have hcp : (0 : Int) < (c : Int) := by simpa using hci
            go_wp2
            all_goals go_ret
            all_goals exact ⟨ret_bool (by rw [HSQ.out]), hb0⟩
          | false =>
            rw [hd] at hci hqt
            subst hqt
            have hcp : ¬ ((0 : Int) < (c : Int)) := by simpa using hci
            go_wp2
            all_goals go_ret
            all_goals exact ⟨ret_bool (by rw [HSQ.out]), hb0⟩
        · have z44 : (kz == 44) = false := by simpa using h44
          have z45 : (kz == 45) = false := by simpa using h45
          by_cases h48 : kz = 48 ∨ kz = 49
          · obtain ⟨t0, ks, hks, hv0, hcb⟩ := chain_kid (u := u) (by have := HKZ.out; omega) HV.out
            obtain ⟨g, o, a0, c0, rfl, hg, hK0⟩ := HFU.out.kid2 0 t0 (by rw [hks]; rfl)
            obtain ⟨⟨f0, f1, f2, f3, f4, f5⟩, hF0⟩ := hK0 _ hb0
            have hF0w := (hK0 w (Below.refl _ _)).2
            simp only [Nat.zero_mul, Nat.add_zero] at f0 f1 f2 f3 f4
            have hlen : (0 : Int) < (u.kids.length : Int) := by rw [hks]; simp; try omega
            have HCB : Hid (chainB true t0 = q) := by unfold Hid; rw [← hcb (decide (0 < c))]; exact HCH.out
            have HC0 : Hid (cntT t0 ≤ gk - 1) := by unfold Hid; have h := HCN.out; obtain ⟨uk, ua, ux, un, us⟩ := u; simp only [] at hks; subst hks; rw [cntT, cntT.cntL] at h; omega
            have HV0 : Hid (vR 2 t0 = true) := hv0
            have HF0 : Hid (Fl w t0 (t0.kind : Int) t0.at_ (strN t0.text) (t0.n : Int) a0 t0.kids.length c0) := hF0w
            obtain ⟨L, hL⟩ : ∃ L, u.kids.length = L := ⟨_, rfl⟩
            rw [hL] at o0 p04 hlen
            have hcc : (c : Int) + 1 ≤ 9223372036854775807 := by omega
            clear hks hv0 hcb hF0 hF0w hK0 hL h44 h45
            rcases h48 with rfl | rfl
            all_goals
              go_wp2_with (refine wpList_put5 rfl (.tmp 1) (.tmp 23) rfl rfl w.heap.size rfl rfl o0 ⟨rfl, rfl, rfl, rfl, rfl⟩ ?_; intro wz oz gz)
              have hbz := below_grown hb0 gz (fun kk hk => by have := Option.some.inj hk; omega) (Nat.le_refl _)
              go_wp2
              go_roundg (gk - 1)
              case rel => exact ⟨t0, a0, c0, c + 1, by go_num, by omega, HC0.out, oz, HF0.out, hbz, HV0.out, by rw [show decide (0 < c + 1) = true from by simp]; exact HCB.out⟩
              case measure => omega
          · have hqf : q = false := by
              rw [← HCH.out]
              have := HKZ.out
              obtain ⟨uk, ua, ux, un, us⟩ := u
              simp only [] at this
              have e1 : uk ≠ 44 := by omega
              have e2 : uk ≠ 45 := by omega
              have e3 : uk ≠ 48 := by omega
              have e4 : uk ≠ 49 := by omega
              simp [chainB, e1, e2, e3, e4]
            have z48 : (kz == 48) = false := by simp; omega
            have z49 : (kz == 49) = false := by simp; omega
            subst hqf
            clear h44 h45 h48
            go_wp2
            go_ret
            exact ⟨ret_bool (by rw [HSQ.out]), hb0⟩
theorem ListAs.le {fn : Nat} {m : P (List Tree)} {c c' : Nat} (h : ListAs fn m c) (hc : c ≤ c') : ListAs fn m c' := fun w r E d s t s' h1 h2 h3 h4 => h w r E d s t s' h1 h2 (by omega) h4
theorem R_as : ∀ f : Nat, f ≤ 1000000 → PartAs 82 (R f).typ (4 * f) ∧ PartAs 71 (R f).unary (4 * f) ∧ PartAs 37 (R f).expr (4 * f) ∧ PartAs 107 (R f).branch (4 * f) ∧ ListAs 85 (R f).stmts (4 * f) := by
  intro f
  induction f with
  | zero =>
    intro _
    refine ⟨?_, ?_, ?_, ?_, ?_⟩ <;> intro w r E d s t s' h1 h2 h3 h4 <;> cases h4
  | succ f ih =>
    intro hf
    obtain ⟨ht, hu, he, hb, hs⟩ := ih (by omega)
    have hfu : f ≤ 100000000 := by omega
    have hB := pblock_as hs
    have hA := (parm_as hs).le (show 4 * f ≤ 4 * f + 1 by omega)
    have he1 := he.le (show 4 * f ≤ 4 * f + 1 by omega)
    have hSi := psimple_as f hfu he
    have hVa := pvarOrSimple_as f hfu he1 hSi
    have hRo := prounds_as f hVa he1 hSi hB
    have hCh := pchoice_as f hfu he (parm_as hs)
    have hTu := pturn_as f he1 hB hRo hCh
    have hPl := pplain_as f hfu he1 hVa
    have hSt := pstmt_as f hB (hb.le (show 4 * f ≤ 4 * f + 1 by omega)) hTu hPl
    refine ⟨(ptypeOf_as ht).le (by omega), (punary_as hu ht he f hfu).le (by omega), (pexpr_as hu f hfu).le (by omega), (pbranch_as (hb.le (show 4 * f ≤ 4 * f + 1 by omega)) he1 hB).le (by omega), (pstmts_as hSt f hfu).le (by omega)⟩
theorem program_as (f : Nat) (hf : f ≤ 1000000) : PartAs 36 (programP f) (4 * f + 2) := by
  obtain ⟨ht, hu, he, hb, hs⟩ := R_as f hf
  have hfu : f ≤ 100000000 := by omega
  have hF := (pfield_as ht).le (show 4 * f ≤ 4 * f + 1 by omega)
  exact pprogram_as f hfu ((precord_as f hfu (pfield_as ht)).le (by omega)) (pfunction_as f hfu hF (presults_as f hfu ht) (pblock_as hs))
def fuelN : Nat := 300000
theorem source_is (s : ByteArray) (h : s.size ≤ 1048576) (T : Except (Nat × Nat) Tree) (HR : Hid (readS (programP fuelN) (bytesN s) = some T)) (w : World) (hL : Laid w) : Calls Tryz.prog 15 #[.string s] w (ReadIs w T) :=
  pSource_as (c := 4 * fuelN + 2) (by unfold fuelN; omega) (program_as fuelN (by unfold fuelN; omega)) s h T HR w hL
theorem expr_is (s : ByteArray) (h : s.size ≤ 1048576) (T : Except (Nat × Nat) Tree) (HR : Hid (readS (R fuelN).expr (bytesN s) = some T)) (w : World) (hL : Laid w) : Calls Tryz.prog 16 #[.string s] w (ReadIs w T) :=
  pExpr_as (c := 4 * fuelN) (by unfold fuelN; omega) (R_as fuelN (by unfold fuelN; omega)).2.2.1 s h T HR w hL
def workT1 : Tree := ⟨1, 0, [], 0, [⟨4, 3, [102], 0, [⟨5, 4, [], 0, [⟨3, 5, [97], 0, [⟨7, 7, [105, 56], 0, []⟩]⟩]⟩, ⟨6, 11, [], 0, []⟩, ⟨10, 11, [], 0, [⟨22, 13, [], 0, []⟩]⟩]⟩]⟩
def workT2 : Tree := ⟨60, 2, [], 0, [⟨40, 0, [], 1, []⟩, ⟨62, 6, [], 0, [⟨40, 4, [], 2, []⟩, ⟨40, 8, [], 3, []⟩]⟩]⟩
def workS1 : ByteArray := ⟨#[102, 110, 32, 102, 40, 97, 32, 105, 56, 41, 32, 123, 32, 114, 101, 116, 117, 114, 110, 59, 32, 125]⟩
def workS2 : ByteArray := ⟨#[49, 32, 43, 32, 50, 32, 42, 32, 51]⟩
def workS3 : ByteArray := ⟨#[97, 32, 61, 61, 32, 98, 32, 61, 61, 32, 99]⟩
theorem work_r1 : readS (programP fuelN) (bytesN workS1) = some (.ok workT1) := by kernel_rfl
theorem work_r2 : readS (R fuelN).expr (bytesN workS2) = some (.ok workT2) := by kernel_rfl
theorem work_r3 : readS (R fuelN).expr (bytesN workS3) = some (.error (7, 40)) := by kernel_rfl
theorem work_c2 : checkN workT2 = 0 := by kernel_rfl
theorem work_c4 : checkN ⟨200, 0, [], 0, []⟩ = 50 := by kernel_rfl
theorem work_g2 : goodTr workT2 := by simp [workT2, goodTr, goodTr.goodTL, GoodX]
theorem work_g4 : goodTr ⟨200, 0, [], 0, []⟩ := by simp [goodTr, goodTr.goodTL, GoodX]
theorem str_f : strN [102] = ⟨#[102]⟩ := by kernel_rfl
theorem works_any (w : World) (HL : Hid (Laid w)) : Calls Tryz.prog 9 #[] w fun e w' => e = .returned (.bool true) ∧ Below w.heap.size w w' := by
  go_enter Tryz.func9, Tryz.ntmps9
  go_wp2_with fail
  refine (source_is workS1 (by decide) _ work_r1 w HL.out).mono ?_
  rintro en w1 ⟨hb1, k1, a1, b1, n1, v1, rfl, hN1⟩
  have hk1 := hN1.2.2.2.2.rd
  obtain ⟨ao1, cap1, hv1, _⟩ := id hk1
  obtain rfl : v1 = .slice ao1 1 cap1 := hv1
  obtain ⟨g1, q1, aj1, cj1, rfl, hg1, f0, f1, f2, f3, f4, _⟩ := kids_cells (ts := workT1.kids) hk1 (Below.refl _ _) 0 _ rfl
  replace f0 : w1.cell? ⟨g1, q1, none⟩ = some (.int .u8 4) := f0
  replace f2 : w1.cell? ⟨g1, q1 + 2, none⟩ = some (.string (strN [102])) := f2
  rw [str_f] at f2
  replace f4 : w1.cell? ⟨g1, q1 + 4, none⟩ = some (.slice aj1 3 cj1) := f4
  clear f1 f3 hk1 hN1
  go_wp2_with fail
  have hL2 : Laid (w1.alloc (.cells #[.int .u8 k1, .int .i64 a1, .string b1, .int .u64 n1, .slice (some ⟨g1, q1, none⟩) 1 cap1] 25)) := (HL.out.on hb1).on ((Below.refl _ _).alloc (Nat.le_refl _) _)
  refine (expr_is workS2 (by decide) _ work_r2 _ hL2).mono ?_
  rintro en w2 ⟨hb2, k2, a2, b2, n2, v2, rfl, hN2⟩
  have o1 := (Own.new w1 #[.int .u8 k1, .int .i64 a1, .string b1, .int .u64 n1, .slice (some ⟨g1, q1, none⟩) 1 cap1] 25).below hb2
  have hb12 : Below w1.heap.size w1 w2 := ((Below.refl _ _).alloc (Nat.le_refl _) _).trans (hb2.mono (by rw [World.size_alloc]; omega))
  have hLw2 := hL2.on hb2
  have hs2 := o1.lt
  replace f0 := (hb12.cell (p := ⟨g1, q1, none⟩) hg1).trans f0
  replace f2 := (hb12.cell (p := ⟨g1, q1 + 2, none⟩) hg1).trans f2
  replace f4 := (hb12.cell (p := ⟨g1, q1 + 4, none⟩) hg1).trans f4
  have hbA : Below w.heap.size w w2 := hb1.trans (hb12.mono hb1.size)
  clear hb1 hb12 hL2 hb2
  have hk2 := hN2.2.2.2.2.rd
  obtain ⟨ao2, cap2, hv2, _⟩ := id hk2
  obtain rfl : v2 = .slice ao2 2 cap2 := hv2
  obtain ⟨g2, q2, aj2, cj2, rfl, hg2, i0, i1, i2, i3, i4, _⟩ := kids_cells (ts := workT2.kids) hk2 (Below.refl _ _) 1 _ rfl
  replace i0 : w2.cell? ⟨g2, q2 + 5, none⟩ = some (.int .u8 62) := i0
  have hkk2 : k2 = 60 := hN2.1
  subst hkk2
  have HN2 : Hid (NodeR w2 workT2 60 a2 b2 n2 (.slice (some ⟨g2, q2, none⟩) 2 cap2)) := hN2.rd
  clear i1 i2 i3 i4 hk2 hN2
  go_wp2_with fail
  have hL3 : Laid (w2.alloc (.cells #[.int .u8 60, .int .i64 a2, .string b2, .int .u64 n2, .slice (some ⟨g2, q2, none⟩) 2 cap2] 25)) := hLw2.on ((Below.refl _ _).alloc (Nat.le_refl _) _)
  refine (expr_is workS3 (by decide) _ work_r3 _ hL3).mono ?_
  rintro en w3 ⟨hb3, hg3⟩
  obtain rfl : en = .returned (.tuple #[.agg #[.int .u8 0, .int .i64 0, .string ⟨#[]⟩, .int .u64 0, .slice none 0 0], .int .i64 7, .int .i64 40]) := hg3
  have hb23 : Below w2.heap.size w2 w3 := ((Below.refl _ _).alloc (Nat.le_refl _) _).trans (hb3.mono (by rw [World.size_alloc]; omega))
  have o2 := (Own.new w2 #[.int .u8 60, .int .i64 a2, .string b2, .int .u64 n2, .slice (some ⟨g2, q2, none⟩) 2 cap2] 25).below hb3
  have o1 := o1.below hb23
  have hg1' : g1 < w2.heap.size := by omega
  replace f0 := (hb23.cell (p := ⟨g1, q1, none⟩) hg1').trans f0
  replace f2 := (hb23.cell (p := ⟨g1, q1 + 2, none⟩) hg1').trans f2
  replace f4 := (hb23.cell (p := ⟨g1, q1 + 4, none⟩) hg1').trans f4
  replace i0 := (hb23.cell (p := ⟨g2, q2 + 5, none⟩) hg2).trans i0
  have hbB : Below w.heap.size w w3 := hbA.trans (hb23.mono hbA.size)
  have HN3 : Hid (NodeR w3 workT2 60 a2 b2 n2 (.slice (some ⟨g2, q2, none⟩) 2 cap2)) := HN2.out.below hb23
  have hs3 := o2.lt
  have hs4 := hb23.size
  have hg1'' : g1 < w3.heap.size := by omega
  have hg2'' : g2 < w3.heap.size := by omega
  have hs5 : w1.heap.size < w3.heap.size := by omega
  clear hbA hb23 hL3 hb3 HN2 hLw2
  obtain ⟨p0, p1, p2, p3, p4, pf1⟩ := o1.five
  obtain ⟨r0, r1, r2, r3, r4, rf⟩ := o2.five
  have hb4 : Below w3.heap.size w3 (w3.alloc (.cells #[.int .u8 0, .int .i64 0, .string ⟨#[]⟩, .int .u64 0, .slice none 0 0] 25)) := (Below.refl _ _).alloc (Nat.le_refl _) _
  have C2 := pCheck_as _ workT2 work_g2 _ _ _ _ _ (HN3.out.below hb4)
  rw [work_c2] at C2
  go_wp2_with fail
  refine C2.mono ?_
  rintro en w4 ⟨rfl, hb5⟩
  have C4 := pCheck_as w4 ⟨200, 0, [], 0, []⟩ work_g4 200 0 ⟨#[]⟩ 0 (.slice none 0 0) ⟨rfl, rfl, rfl, rfl, none, 0, rfl, Nat.le_refl _, by omega, .inl rfl⟩
  rw [work_c4] at C4
  clear C2
  go_wp2_with fail
  refine C4.mono ?_
  rintro en w5 ⟨rfl, hb6⟩
  go_wp2
  go_ret
  exact ⟨rfl, (hbB.trans ((hb4.trans (hb5.mono (by rw [World.size_alloc]; omega))).mono hbB.size)).trans (hb6.mono (by have := hbB.size; have := hb5.size; rw [World.size_alloc] at this; omega))⟩
set_option linter.unusedSimpArgs false
theorem is8 (t : Tree) (hw : wideTr t) (H : KidsAs t) : IsAs 8 t := by
  intro w k a b n v hN
  obtain ⟨ao, m, cap, rfl, hF⟩ := Fl.of hN hw
  have HF : Hid (Fl w t k a b n ao m cap) := hF
  have hk := hF.kind
  have hm1 := hF.2.2.2.1
  have hm2 := hF.2.2.2.2
  have o0 := Own.new w #[.int .u8 k, .int .i64 a, .string b, .int .u64 n, .slice ao m cap] 25
  have hb0 : Below w.heap.size w (w.alloc (.cells #[.int .u8 k, .int .i64 a, .string b, .int .u64 n, .slice ao m cap] 25)) := (Below.refl _ _).alloc (Nat.le_refl _) _
  obtain ⟨qb, hqb⟩ : ∃ q, bareB t.text n = q := ⟨_, rfl⟩
  have CB : ∀ W : World, Calls Tryz.prog 26 #[.agg #[.int .u8 k, .int .i64 a, .string b, .int .u64 n, .slice ao m cap]] W fun en w' => en = .returned (.bool qb) ∧ Below W.heap.size W w' := fun W => by have := zbare_as W k a n b (.slice ao m cap) rfl t.text HF.out.txt; rw [hqb] at this; exact this
  have HS : Hid (vR 8 t = (t.kids.all (fun u => vR 6 u || vR 7 u) && (k == 1 && qb))) := by
    unfold Hid
    rw [← hqb, HF.out.num]
    have hl := HF.out.len
    by_cases h1 : t.kind = 1
    · have e : (k == 1) = true := by simp; omega
      rw [e, Bool.true_and]
      obtain ⟨kd, at_, x, nn, ks⟩ := t
      simp only [] at h1
      subst h1
      exact m8 (by simp only [] at hl; omega)
    · have e : (k == 1) = false := by simp; omega
      have e2 : (t.kind == 1) = false := by simpa using h1
      rw [e, vR_8, e2]; simp
  have HM : Hid (t.kids.length = m) := HF.out.len
  clear hF hN hk hqb
  have hcap : (m : Int) ≤ 9223372036854775807 := by omega
  go_enter Tryz.func14, Tryz.ntmps14
  go_wp2_with fail
  go_loopg [6] m (fun g iv wr => KRel w #[.int .u8 k, .int .i64 a, .string b, .int .u64 n, .slice ao m cap] t.kids (fun _ u => vR 6 u || vR 7 u) 0 m g iv wr)
  case atStart => exact ⟨0, by omega, Nat.le_refl _, rfl, o0, hb0, fun i u _ h => by omega⟩
  case round =>
    clear o0 hb0
    obtain ⟨j, hj, _, rfl, o0, hb0, hno⟩ := hrel
    have HNO : Hid (∀ i u, 0 ≤ i → i < j → t.kids[i]? = some u → (vR 6 u || vR 7 u) = true) := hno
    have HJ : Hid (j + gk = m) := hj
    obtain ⟨p00, p01, p02, p03, p04, p05⟩ := o0.five
    have hl0 := o0.lt
    clear hno
    by_cases hlt : j < m
    · obtain ⟨u, hu⟩ : ∃ u, t.kids[j]? = some u := ⟨t.kids[j]'(by rw [HM.out]; exact hlt), List.getElem?_eq_getElem _⟩
      obtain ⟨g, o, aju, cju, rfl, hg, hKu⟩ := HF.out.kid2 j u hu
      have HKu : Hid (∀ W, Below w.heap.size w W → Cel W g o j u aju cju) := fun W hW => (hKu W hW).1
      obtain ⟨q6, hq6⟩ : ∃ q, vR 6 u = q := ⟨_, rfl⟩
      have C6 : ∀ W : World, Below w.heap.size w W → Calls Tryz.prog 14 #[.agg #[.int .u8 (u.kind : Int), .int .i64 u.at_, .string (strN u.text), .int .u64 (u.n : Int), .slice aju u.kids.length cju], .int .i64 6] W fun en w' => en = .returned (.bool q6) ∧ Below W.heap.size W w' := fun W hW => by have := H 6 (by omega) (by omega) u (List.mem_of_getElem? hu) W _ _ _ _ _ (hKu W hW).2.1; rw [hq6] at this; exact this
      obtain ⟨q7, hq7⟩ : ∃ q, vR 7 u = q := ⟨_, rfl⟩
      have C7 : ∀ W : World, Below w.heap.size w W → Calls Tryz.prog 14 #[.agg #[.int .u8 (u.kind : Int), .int .i64 u.at_, .string (strN u.text), .int .u64 (u.n : Int), .slice aju u.kids.length cju], .int .i64 7] W fun en w' => en = .returned (.bool q7) ∧ Below W.heap.size W w' := fun W hW => by have := H 7 (by omega) (by omega) u (List.mem_of_getElem? hu) W _ _ _ _ _ (hKu W hW).2.1; rw [hq7] at this; exact this
      have HU : Hid (t.kids[j]? = some u) := hu
      have HP : Hid ((vR 6 u || vR 7 u) = (q6 || q7)) := by unfold Hid; rw [hq6, hq7]
      have i1 : (j : Int) < (m : Int) := by omega
      have i2 : (0 : Int) ≤ (j : Int) := by omega
      have hg1 : 1 ≤ gk := by have := HJ.out; omega
      clear hu hq6 hq7 hKu hj
      obtain ⟨f0, f1, f2, f3, f4, f5⟩ := HKu.out _ hb0
      go_wp2_with fail
      refine (C6 _ hb0).mono ?_
      rintro en w1 ⟨rfl, hb1'⟩
      have o1 := o0.below hb1'
      have hb1 := hb0.trans (hb1'.mono hb0.size)
      obtain ⟨p10, p11, p12, p13, p14, p15⟩ := o1.five
      have hl1 := o1.lt
      clear hb1'
      obtain ⟨f0, f1, f2, f3, f4, f5⟩ := HKu.out _ hb1
      cases q6 with
      | true =>
        have HN2 : Hid (∀ i y, 0 ≤ i → i < j + 1 → t.kids[i]? = some y → (vR 6 y || vR 7 y) = true) := fun i y hi0 hi hy => by
          by_cases e : i = j
          · subst e; rw [HU.out] at hy; cases hy; rw [HP.out]; rfl
          · exact HNO.out i y hi0 (by omega) hy
        go_wp2
        go_roundg (gk - 1)
        case rel => exact ⟨j + 1, by have := HJ.out; omega, by omega, by go_num, o1, hb1, HN2.out⟩
        case measure => omega
      | false =>
        go_wp2_with fail
        refine (C7 _ hb1).mono ?_
        rintro en w2 ⟨rfl, hb2'⟩
        have o2 := o1.below hb2'
        have hb2 := hb1.trans (hb2'.mono hb1.size)
        obtain ⟨p20, p21, p22, p23, p24, p25⟩ := o2.five
        have hl2 := o2.lt
        clear hb2'
        cases q7 with
        | true =>
          have HN2 : Hid (∀ i y, 0 ≤ i → i < j + 1 → t.kids[i]? = some y → (vR 6 y || vR 7 y) = true) := fun i y hi0 hi hy => by
            by_cases e : i = j
            · subst e; rw [HU.out] at hy; cases hy; rw [HP.out]; rfl
            · exact HNO.out i y hi0 (by omega) hy
          go_wp2
          go_roundg (gk - 1)
          case rel => exact ⟨j + 1, by have := HJ.out; omega, by omega, by go_num, o2, hb2, HN2.out⟩
          case measure => omega
        | false =>
          have hz : t.kids.all (fun u => vR 6 u || vR 7 u) = false := all_not HU.out (by rw [HP.out]; rfl)
          have HS2 : Hid (vR 8 t = false) := by unfold Hid; rw [HS.out, hz]; rfl
          clear hz
          go_wp2
          go_ret
          exact ⟨ret_bool HS2.out.symm, hb2⟩
    · have i1 : ¬ (j : Int) < (m : Int) := by omega
      have hz : t.kids.all (fun u => vR 6 u || vR 7 u) = true := all_get fun i u hu => HNO.out i u (by omega) (by have : i < t.kids.length := (List.getElem?_eq_some_iff.1 hu).1; rw [HM.out] at this; omega) hu
      have HS2 : Hid (vR 8 t = (k == 1 && qb)) := by unfold Hid; rw [HS.out, hz]; simp
      clear hz
      cases hk1 : (k == 1) with
      | false =>
        go_wp2
        go_ret
        exact ⟨ret_bool (by rw [HS2.out, hk1]; rfl), hb0⟩
      | true =>
        go_wp2_with fail
        refine (CB _).mono ?_
        rintro en w1 ⟨rfl, hb1'⟩
        have o1 := o0.below hb1'
        have hb1 := hb0.trans (hb1'.mono hb0.size)
        obtain ⟨p10, p11, p12, p13, p14, p15⟩ := o1.five
        have hl1 := o1.lt
        clear hb1'
        go_wp2
        go_ret
        exact ⟨ret_bool (by rw [HS2.out, hk1]; rfl), hb1⟩
set_option linter.unusedSimpArgs false
def StAs (t : Tree) : Prop := ∀ (w : World) (k a : Int) (b : ByteArray) (n : Int) (v : Value), NodeR w t k a b n v → Calls Tryz.prog 28 #[.agg #[.int .u8 k, .int .i64 a, .string b, .int .u64 n, v]] w fun en w' => en = .returned (.bool (vR 3 t)) ∧ Below w.heap.size w w'
theorem s10 (t : Tree) (h : t.kind = 10) : vR 3 t = vR 4 t := by rw [vR_3, vR_4, v21 7 t (by decide), v21 6 t (by decide), h]; rfl
theorem s11 (t : Tree) (h : t.kind = 11) : vR 3 t = vR 17 t := by rw [vR_3, vR_17, h]; simp
theorem s12 (t : Tree) (h : t.kind = 12) : vR 3 t = vR 16 t := by rw [vR_3, vR_16, h]; simp
theorem s13 (t : Tree) (h : t.kind = 13) : vR 3 t = vR 16 t := by rw [vR_3, vR_16, h]; simp
theorem s14 (t : Tree) (h : t.kind = 14) : vR 3 t = vR 14 t := by rw [vR_3, vR_14, h]; simp
theorem sNo (t : Tree) (h1 : isStmtI t.kind = false) : vR 3 t = false := by rw [vR_3, valid_core, show takesI 7 (t.kind : Int) = isStmtI t.kind from rfl, h1]; rfl
theorem m3_16 {a : Int} {x : List Nat} {n : Nat} {t0 t1 t2 t3 : Tree} : vR 3 ⟨16, a, x, n, [t0, t1, t2, t3]⟩ = (namedB x n true && (vR 4 t3 && ((vR 15 t0 || (vR 17 t0 || vR 16 t0)) && ((vR 15 t1 || vR 2 t1) && (vR 15 t2 || vR 16 t2))))) := by
  rw [← v_9, ← v_10, ← v_11, vR_3, valid_core 7]
  simp only [coreT]
  simp [vR_4, takesI, isStmtI, kidsI, textI, numI, namedB, validT.validL, asksI, pickI]
  grind
def armB (m : Nat) (i : Nat) (u : Tree) : Bool := vR 11 u || (decide (i + 1 = m) && vR 12 u)
def armsB (m : Nat) : Nat → List Tree → Bool
  | _, [] => true
  | i, u :: us => armB m i u && armsB m (i + 1) us
theorem arms_valid (m : Nat) (hm : 2 ≤ m ∨ True) : ∀ (ks : List Tree) (i : Nat), 1 ≤ i → i + ks.length = m → validT.validL 7 17 m i ks = armsB m i ks := by
  intro ks
  induction ks with
  | nil => intro i hi h; simp [validT.validL, armsB]
  | cons u us ih =>
    intro i hi h
    rw [validT.validL, armsB, ih (i + 1) (by omega) (by simp at h; omega), armB]
    congr 1
    have e : asksI 7 ((17 : Nat) : Int) (m : Int) (i : Int) = if i + 1 = m then 13 else 12 := by
      have e1 : (min (i : Int) 1).toNat = 1 := by omega
      by_cases h9 : i + 1 = m
      · have : (i : Int) == (m : Int) - 1 := by simp; omega
        simp [asksI, pickI, e1, eitherI, h9, this]
      · have : ((i : Int) == (m : Int) - 1) = false := by simp; omega
        simp [asksI, pickI, e1, eitherI, h9, this]
    rw [e]
    by_cases h9 : i + 1 = m
    · simp [h9, v_13]
    · simp [h9, vR_11]
theorem arms_get (m : Nat) : ∀ (ks : List Tree) (i : Nat), armsB m i ks = true ↔ ∀ (j : Nat) (u : Tree), ks[j]? = some u → armB m (i + j) u = true := by
  intro ks
  induction ks with
  | nil => intro i; simp [armsB]
  | cons u us ih =>
    intro i
    rw [armsB, Bool.and_eq_true, ih]
    constructor
    · rintro ⟨h1, h2⟩ j v hv
      cases j with
      | zero => cases hv; exact h1
      | succ j => have := h2 j v (by simpa using hv); rw [show i + 1 + j = i + (j + 1) by omega] at this; exact this
    · intro h
      exact ⟨h 0 u rfl, fun j v hv => by have := h (j + 1) v (by simpa using hv); rw [show i + (j + 1) = i + 1 + j by omega] at this; exact this⟩
theorem m3_17 {a : Int} {x : List Nat} {n : Nat} {t0 : Tree} {ks : List Tree} (hl : ks.length + 1 ≤ 9223372036854775807) : vR 3 ⟨17, a, x, n, t0 :: ks⟩ = (namedB x n true && (vR 2 t0 && armsB (ks.length + 1) 1 ks)) := by
  rw [vR_3, valid_core 7]
  simp only [coreT]
  rw [validT.validL, List.length_cons, arms_valid (ks.length + 1) (.inr trivial) ks (0 + 1) (by omega) (by omega)]
  have e : asksI 7 ((17 : Nat) : Int) ((ks.length + 1 : Nat) : Int) ((0 : Nat) : Int) = 21 := by simp [asksI, pickI]; rfl
  rw [e]
  have hl2 : (ks.length : Int) + 1 ≤ 9223372036854775807 := by omega
  simp [vR_2, takesI, isStmtI, kidsI, textI, numI, namedB, hl2]
  grind
end Go.Proofs.YtmhnbklchnnbaaaGreatDoor
