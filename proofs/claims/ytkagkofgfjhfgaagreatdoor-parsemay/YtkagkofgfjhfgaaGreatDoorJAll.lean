/-
  Texts joined: PAll, Works, WorksW.
-/
import Derived.Test.YtkagkofgfjhfgaaGreatDoorPPart9
import Derived.Test.YtkagkofgfjhfgaaGreatDoorPPart10
import Derived.Test.YtkagkofgfjhfgaaGreatDoorJPart11
import Derived.Test.YtkagkofgfjhfgaaGreatDoorPStmt8
import Derived.Test.YtkagkofgfjhfgaaGreatDoorJStmt9
import Derived.Test.YtkagkofgfjhfgaaGreatDoorPReadS
import Derived.Test.YtkagkofgfjhfgaaGreatDoorJCkCheck
import Derived.Test.YtkagkofgfjhfgaaGreatDoorKLike

/-
  THE LANDED PARSER: contracts of all its recursive parts, and of Source, Expr, Type.
-/
namespace Go.Proofs.YtkagkofgfjhfgaaGreatDoor
open Go.RowKit
set_option linter.unusedVariables false

theorem ListAs.le {fn : Nat} {m : P (List Tree)} {c c' : Nat} (h : ListAs fn m c) (hc : c ≤ c') : ListAs fn m c' := fun w r E d s t s' h1 h2 h3 h4 => h w r E d s t s' h1 h2 (by omega) h4
theorem R_as : ∀ f : Nat, f ≤ 1000000 → PartAs 20 (R f).typ (4 * f) ∧ PartAs 57 (R f).unary (4 * f) ∧ PartAs 19 (R f).expr (4 * f) ∧ PartAs 100 (R f).branch (4 * f) ∧ ListAs 79 (R f).stmts (4 * f) := by
  intro f
  induction f with
  | zero =>
    intro _
    refine ⟨?_, ?_, ?_, ?_, ?_⟩ <;> intro w r E d s t s' h1 h2 h3 h4 <;> cases h4
  | succ f ih =>
    intro hf
    obtain ⟨ht, hu, he, hb, hs⟩ := ih (by omega)
    have hfu : f ≤ 100000000 := by omega
    have hB := pblock_as hs
    have hA := (parm_as hs).le (show 4 * f ≤ 4 * f + 1 by omega)
    have he1 := he.le (show 4 * f ≤ 4 * f + 1 by omega)
    have hSi := psimple_as f hfu he
    have hVa := pvarOrSimple_as f hfu he1 hSi
    have hRo := prounds_as f hVa he1 hSi hB
    have hCh := pchoice_as f hfu he (parm_as hs)
    have hTu := pturn_as f he1 hB hRo hCh
    have hPl := pplain_as f hfu he1 hVa
    have hSt := pstmt_as f hB (hb.le (show 4 * f ≤ 4 * f + 1 by omega)) hTu hPl
    refine ⟨(ptypeOf_as ht).le (by omega), (punary_as hu ht he f hfu).le (by omega), (pexpr_as hu f hfu).le (by omega), (pbranch_as (hb.le (show 4 * f ≤ 4 * f + 1 by omega)) he1 hB).le (by omega), (pstmts_as hSt f hfu).le (by omega)⟩
theorem program_as (f : Nat) (hf : f ≤ 1000000) : PartAs 18 (programP f) (4 * f + 2) := by
  obtain ⟨ht, hu, he, hb, hs⟩ := R_as f hf
  have hfu : f ≤ 100000000 := by omega
  have hF := (pfield_as ht).le (show 4 * f ≤ 4 * f + 1 by omega)
  exact pprogram_as f hfu ((precord_as f hfu (pfield_as ht)).le (by omega)) (pfunction_as f hfu hF (presults_as f hfu ht) (pblock_as hs))

/-! ### What a source, an expression, a type is read as -/
def fuelN : Nat := 300000
theorem read_some {m : P Tree} (hm : ∀ (E : Nat) (ts : List Tok), 4 * ts.length + 20 ≤ fuelN → ∃ n s, m E 0 ⟨ts, 0, 0⟩ = some (n, s)) (l : List Nat) (hl : ∀ c ∈ l, c < 256) : ∃ T, readS m l = some T := by
  cases h : tokens l with
  | error e => exact ⟨.error e, by unfold readS; rw [h]⟩
  | ok ts =>
    obtain ⟨n, s, hn⟩ := hm l.length ts (by have := (tokens_good l ts h hl).1; unfold fuelN; omega)
    have e : readS m l = readP m l.length ts := by unfold readS; rw [h]
    rw [e]
    unfold readP
    rw [hn]
    exact ⟨_, rfl⟩
theorem src_some (l : List Nat) (hl : ∀ c ∈ l, c < 256) : ∃ T, readS (programP fuelN) l = some T := read_some (fun E ts h => by obtain ⟨n, s, h1, _⟩ := program_tot E ts fuelN h; exact ⟨n, s, h1⟩) l hl
theorem expr_some (l : List Nat) (hl : ∀ c ∈ l, c < 256) : ∃ T, readS (R fuelN).expr l = some T := read_some (fun E ts h => by obtain ⟨n, s, h1, _⟩ := expr_tot E ts fuelN h; exact ⟨n, s, h1⟩) l hl
theorem typ_some (l : List Nat) (hl : ∀ c ∈ l, c < 256) : ∃ T, readS (R fuelN).typ l = some T := read_some (fun E ts h => by obtain ⟨n, s, h1, _⟩ := typ_tot E ts fuelN h; exact ⟨n, s, h1⟩) l hl
theorem source_is (s : ByteArray) (h : s.size ≤ 1048576) (T : Except (Nat × Nat) Tree) (HR : Hid (readS (programP fuelN) (bytesN s) = some T)) (w : World) (hL : Laid w) : Calls Tryz.prog 7 #[.string s] w (ReadIs w T) :=
  pSource_as (c := 4 * fuelN + 2) (by unfold fuelN; omega) (program_as fuelN (by unfold fuelN; omega)) s h T HR w hL
theorem expr_is (s : ByteArray) (h : s.size ≤ 1048576) (T : Except (Nat × Nat) Tree) (HR : Hid (readS (R fuelN).expr (bytesN s) = some T)) (w : World) (hL : Laid w) : Calls Tryz.prog 8 #[.string s] w (ReadIs w T) :=
  pExpr_as (c := 4 * fuelN) (by unfold fuelN; omega) (R_as fuelN (by unfold fuelN; omega)).2.2.1 s h T HR w hL
theorem type_is (s : ByteArray) (h : s.size ≤ 1048576) (T : Except (Nat × Nat) Tree) (HR : Hid (readS (R fuelN).typ (bytesN s) = some T)) (w : World) (hL : Laid w) : Calls Tryz.prog 9 #[.string s] w (ReadIs w T) :=
  pType_as (c := 4 * fuelN) (by unfold fuelN; omega) (R_as fuelN (by unfold fuelN; omega)).1 s h T HR w hL
end Go.Proofs.YtkagkofgfjhfgaaGreatDoor

/-
  THE STATEMENTS' OWN works: the parser and Check at small texts.
-/
namespace Go.Proofs.YtkagkofgfjhfgaaGreatDoor
open Go.RowKit
set_option linter.unusedVariables false

def workT1 : Tree := ⟨1, 0, [], 0, [⟨4, 3, [102], 0, [⟨5, 4, [], 0, [⟨3, 5, [97], 0, [⟨7, 7, [105, 56], 0, []⟩]⟩]⟩, ⟨6, 11, [], 0, []⟩, ⟨10, 11, [], 0, [⟨22, 13, [], 0, []⟩]⟩]⟩]⟩
def workT2 : Tree := ⟨60, 2, [], 0, [⟨40, 0, [], 1, []⟩, ⟨62, 6, [], 0, [⟨40, 4, [], 2, []⟩, ⟨40, 8, [], 3, []⟩]⟩]⟩
def workS1 : ByteArray := ⟨#[102, 110, 32, 102, 40, 97, 32, 105, 56, 41, 32, 123, 32, 114, 101, 116, 117, 114, 110, 59, 32, 125]⟩
def workS2 : ByteArray := ⟨#[49, 32, 43, 32, 50, 32, 42, 32, 51]⟩
def workS3 : ByteArray := ⟨#[97, 32, 61, 61, 32, 98, 32, 61, 61, 32, 99]⟩
theorem work_r1 : readS (programP fuelN) (bytesN workS1) = some (.ok workT1) := by kernel_rfl
theorem work_r2 : readS (R fuelN).expr (bytesN workS2) = some (.ok workT2) := by kernel_rfl
theorem work_r3 : readS (R fuelN).expr (bytesN workS3) = some (.error (7, 40)) := by kernel_rfl
theorem work_c2 : checkN workT2 = 0 := by kernel_rfl
theorem work_c4 : checkN ⟨200, 0, [], 0, []⟩ = 50 := by kernel_rfl
theorem work_g2 : goodTr workT2 := by simp [workT2, goodTr, goodTr.goodTL, GoodX]
theorem work_g4 : goodTr ⟨200, 0, [], 0, []⟩ := by simp [goodTr, goodTr.goodTL, GoodX]
end Go.Proofs.YtkagkofgfjhfgaaGreatDoor

/-
  THE STATEMENTS' OWN works answers true.
-/
namespace Go.Proofs.YtkagkofgfjhfgaaGreatDoor
open Go.RowKit
set_option linter.unusedVariables false

theorem str_f : strN [102] = ⟨#[102]⟩ := by kernel_rfl
set_option maxRecDepth 100000 in
set_option maxHeartbeats 4000000 in
theorem works_any (w : World) (HL : Hid (Laid w)) : Calls Tryz.prog 11 #[] w fun e w' => e = .returned (.bool true) ∧ Below w.heap.size w w' := by
  go_enter Tryz.func11, Tryz.ntmps11
  go_wp2_with fail
  refine (source_is workS1 (by decide) _ work_r1 w HL.out).mono ?_
  rintro en w1 ⟨hb1, k1, a1, b1, n1, v1, rfl, hN1⟩
  have hk1 := hN1.2.2.2.2.rd
  obtain ⟨ao1, cap1, hv1, _⟩ := id hk1
  obtain rfl : v1 = .slice ao1 1 cap1 := hv1
  obtain ⟨g1, q1, aj1, cj1, rfl, hg1, f0, f1, f2, f3, f4, _⟩ := kids_cells (ts := workT1.kids) hk1 (Below.refl _ _) 0 _ rfl
  replace f0 : w1.cell? ⟨g1, q1, none⟩ = some (.int .u8 4) := f0
  replace f2 : w1.cell? ⟨g1, q1 + 2, none⟩ = some (.string (strN [102])) := f2
  rw [str_f] at f2
  replace f4 : w1.cell? ⟨g1, q1 + 4, none⟩ = some (.slice aj1 3 cj1) := f4
  clear f1 f3 hk1 hN1
  go_wp2_with fail
  have hL2 : Laid (w1.alloc (.cells #[.int .u8 k1, .int .i64 a1, .string b1, .int .u64 n1, .slice (some ⟨g1, q1, none⟩) 1 cap1] 25)) := (HL.out.on hb1).on ((Below.refl _ _).alloc (Nat.le_refl _) _)
  refine (expr_is workS2 (by decide) _ work_r2 _ hL2).mono ?_
  rintro en w2 ⟨hb2, k2, a2, b2, n2, v2, rfl, hN2⟩
  have o1 := (Own.new w1 #[.int .u8 k1, .int .i64 a1, .string b1, .int .u64 n1, .slice (some ⟨g1, q1, none⟩) 1 cap1] 25).below hb2
  have hb12 : Below w1.heap.size w1 w2 := ((Below.refl _ _).alloc (Nat.le_refl _) _).trans (hb2.mono (by rw [World.size_alloc]; omega))
  have hLw2 := hL2.on hb2
  have hs2 := o1.lt
  replace f0 := (hb12.cell (p := ⟨g1, q1, none⟩) hg1).trans f0
  replace f2 := (hb12.cell (p := ⟨g1, q1 + 2, none⟩) hg1).trans f2
  replace f4 := (hb12.cell (p := ⟨g1, q1 + 4, none⟩) hg1).trans f4
  have hbA : Below w.heap.size w w2 := hb1.trans (hb12.mono hb1.size)
  clear hb1 hb12 hL2 hb2
  have hk2 := hN2.2.2.2.2.rd
  obtain ⟨ao2, cap2, hv2, _⟩ := id hk2
  obtain rfl : v2 = .slice ao2 2 cap2 := hv2
  obtain ⟨g2, q2, aj2, cj2, rfl, hg2, i0, i1, i2, i3, i4, _⟩ := kids_cells (ts := workT2.kids) hk2 (Below.refl _ _) 1 _ rfl
  replace i0 : w2.cell? ⟨g2, q2 + 5, none⟩ = some (.int .u8 62) := i0
  have hkk2 : k2 = 60 := hN2.1
  subst hkk2
  have HN2 : Hid (NodeR w2 workT2 60 a2 b2 n2 (.slice (some ⟨g2, q2, none⟩) 2 cap2)) := hN2.rd
  clear i1 i2 i3 i4 hk2 hN2
  go_wp2_with fail
  have hL3 : Laid (w2.alloc (.cells #[.int .u8 60, .int .i64 a2, .string b2, .int .u64 n2, .slice (some ⟨g2, q2, none⟩) 2 cap2] 25)) := hLw2.on ((Below.refl _ _).alloc (Nat.le_refl _) _)
  refine (expr_is workS3 (by decide) _ work_r3 _ hL3).mono ?_
  rintro en w3 ⟨hb3, hg3⟩
  obtain rfl : en = .returned (.tuple #[.agg #[.int .u8 0, .int .i64 0, .string ⟨#[]⟩, .int .u64 0, .slice none 0 0], .int .i64 7, .int .i64 40]) := hg3
  have hb23 : Below w2.heap.size w2 w3 := ((Below.refl _ _).alloc (Nat.le_refl _) _).trans (hb3.mono (by rw [World.size_alloc]; omega))
  have o2 := (Own.new w2 #[.int .u8 60, .int .i64 a2, .string b2, .int .u64 n2, .slice (some ⟨g2, q2, none⟩) 2 cap2] 25).below hb3
  have o1 := o1.below hb23
  have hg1' : g1 < w2.heap.size := by omega
  replace f0 := (hb23.cell (p := ⟨g1, q1, none⟩) hg1').trans f0
  replace f2 := (hb23.cell (p := ⟨g1, q1 + 2, none⟩) hg1').trans f2
  replace f4 := (hb23.cell (p := ⟨g1, q1 + 4, none⟩) hg1').trans f4
  replace i0 := (hb23.cell (p := ⟨g2, q2 + 5, none⟩) hg2).trans i0
  have hbB : Below w.heap.size w w3 := hbA.trans (hb23.mono hbA.size)
  have HN3 : Hid (NodeR w3 workT2 60 a2 b2 n2 (.slice (some ⟨g2, q2, none⟩) 2 cap2)) := HN2.out.below hb23
  have hs3 := o2.lt
  have hs4 := hb23.size
  have hg1'' : g1 < w3.heap.size := by omega
  have hg2'' : g2 < w3.heap.size := by omega
  have hs5 : w1.heap.size < w3.heap.size := by omega
  clear hbA hb23 hL3 hb3 HN2 hLw2
  obtain ⟨p0, p1, p2, p3, p4, pf1⟩ := o1.five
  obtain ⟨r0, r1, r2, r3, r4, rf⟩ := o2.five
  have hb4 : Below w3.heap.size w3 (w3.alloc (.cells #[.int .u8 0, .int .i64 0, .string ⟨#[]⟩, .int .u64 0, .slice none 0 0] 25)) := (Below.refl _ _).alloc (Nat.le_refl _) _
  have C2 := pCheck_as _ workT2 work_g2 _ _ _ _ _ (HN3.out.below hb4)
  rw [work_c2] at C2
  go_wp2_with fail
  refine C2.mono ?_
  rintro en w4 ⟨rfl, hb5⟩
  have C4 := pCheck_as w4 ⟨200, 0, [], 0, []⟩ work_g4 200 0 ⟨#[]⟩ 0 (.slice none 0 0) ⟨rfl, rfl, rfl, rfl, none, 0, rfl, Nat.le_refl _, by omega, .inl rfl⟩
  rw [work_c4] at C4
  clear C2
  go_wp2_with fail
  refine C4.mono ?_
  rintro en w5 ⟨rfl, hb6⟩
  go_wp2
  go_ret
  exact ⟨rfl, (hbB.trans ((hb4.trans (hb5.mono (by rw [World.size_alloc]; omega))).mono hbB.size)).trans (hb6.mono (by have := hbB.size; have := hb5.size; rw [World.size_alloc] at this; omega))⟩
end Go.Proofs.YtkagkofgfjhfgaaGreatDoor
