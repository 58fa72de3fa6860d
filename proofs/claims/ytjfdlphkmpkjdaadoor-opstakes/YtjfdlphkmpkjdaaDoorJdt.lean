/-
  THE DOCUMENT'S plain and made, by any op. (Written by mkdt2.py.)
  CONTRACT of the document's Takes.
-/
import Derived.Test.YtjfdlphkmpkjdaaDoorJdp
import Derived.Test.YtjfdlphkmpkjdaaDoorJdm
import Derived.Test.YtjfdlphkmpkjdaaDoorJdn
import Derived.Test.YtjfdlphkmpkjdaaDoorJts
import Derived.Test.YtjfdlphkmpkjdaaDoorJck
import Derived.Test.YtjfdlphkmpkjdaaDoorRs
namespace Go.Proofs.YtjfdlphkmpkjdaaDoor
open Go.RowKit
set_option linter.unusedVariables false

def plE6 (op : Nat) (a b : Int) : List Int × List Int := if op = 6 then ([], [5]) else plE op a b
def PlAt (op : Nat) : Prop := ∀ (w : World) (a b : Int) (ao : Option Addr) (n c : Nat), Calls Tryd.prog 26 #[.agg #[.int .u8 (op : Int), .int .i64 a, .int .i64 b, .slice ao n c]] w (TwoRet w (plE6 op a b).1 (plE6 op a b).2)
theorem pl1 : PlAt 1 := fun w a b ao n c => rplain1 a b ao n c
theorem pl2 : PlAt 2 := fun w a b ao n c => rplain2 a b ao n c
theorem pl3 : PlAt 3 := fun w a b ao n c => rplain3 a b ao n c
theorem pl4 : PlAt 4 := fun w a b ao n c => rplain4 a b ao n c
theorem pl5 : PlAt 5 := fun w a b ao n c => rplain5 a b ao n c
theorem pl6 : PlAt 6 := fun w a b ao n c => rplain6 a b ao n c
theorem pl7 : PlAt 7 := fun w a b ao n c => rplain7 a b ao n c
theorem pl8 : PlAt 8 := fun w a b ao n c => rplain8 a b ao n c
theorem pl9 : PlAt 9 := fun w a b ao n c => rplain9 a b ao n c
theorem pl10 : PlAt 10 := fun w a b ao n c => rplain10 a b ao n c
theorem pl11 : PlAt 11 := fun w a b ao n c => rplain11 a b ao n c
theorem pl12 : PlAt 12 := fun w a b ao n c => rplain12 a b ao n c
theorem pl13 : PlAt 13 := fun w a b ao n c => rplain13 a b ao n c
theorem pl14 : PlAt 14 := fun w a b ao n c => rplain14 a b ao n c
theorem pl15 : PlAt 15 := fun w a b ao n c => rplain15 a b ao n c
theorem pl16 : PlAt 16 := fun w a b ao n c => rplain16 a b ao n c
theorem pl17 : PlAt 17 := fun w a b ao n c => rplain17 a b ao n c
theorem pl18 : PlAt 18 := fun w a b ao n c => rplain18 a b ao n c
theorem pl19 : PlAt 19 := fun w a b ao n c => rplain19 a b ao n c
theorem pl20 : PlAt 20 := fun w a b ao n c => rplain20 a b ao n c
theorem pl21 : PlAt 21 := fun w a b ao n c => rplain21 a b ao n c
theorem pl22 : PlAt 22 := fun w a b ao n c => rplain22 a b ao n c
theorem pl23 : PlAt 23 := fun w a b ao n c => rplain23 a b ao n c
theorem pl24 : PlAt 24 := fun w a b ao n c => rplain24 a b ao n c
theorem pl25 : PlAt 25 := fun w a b ao n c => rplain25 a b ao n c
theorem pl26 : PlAt 26 := fun w a b ao n c => rplain26 a b ao n c
theorem pl27 : PlAt 27 := fun w a b ao n c => rplain27 a b ao n c
theorem pl28 : PlAt 28 := fun w a b ao n c => rplain28 a b ao n c
theorem pl29 : PlAt 29 := fun w a b ao n c => rplain29 a b ao n c
theorem pl30 : PlAt 30 := fun w a b ao n c => rplain30 a b ao n c
theorem pl31 : PlAt 31 := fun w a b ao n c => rplain31 a b ao n c
theorem pl32 : PlAt 32 := fun w a b ao n c => rplain32 a b ao n c
theorem pl33 : PlAt 33 := fun w a b ao n c => rplain33 a b ao n c
theorem pl34 : PlAt 34 := fun w a b ao n c => rplain34 a b ao n c
theorem pl35 : PlAt 35 := fun w a b ao n c => rplain35 a b ao n c
theorem pl46 : PlAt 46 := fun w a b ao n c => rplain46 a b ao n c
theorem pl47 : PlAt 47 := fun w a b ao n c => rplain47 a b ao n c
theorem pl48 : PlAt 48 := fun w a b ao n c => rplain48 a b ao n c
theorem pl49 : PlAt 49 := fun w a b ao n c => rplain49 a b ao n c
theorem pl51 : PlAt 51 := fun w a b ao n c => rplain51 a b ao n c
theorem pl52 : PlAt 52 := fun w a b ao n c => rplain52 a b ao n c
theorem pl_at : ∀ op : Nat, 1 ≤ op → op ≤ 52 → op ≠ 50 → ¬ (36 ≤ op ∧ op ≤ 45) → PlAt op
  | 0, h, _, _, _ => absurd h (by omega)
  | 1, _, _, _, _ => pl1
  | 2, _, _, _, _ => pl2
  | 3, _, _, _, _ => pl3
  | 4, _, _, _, _ => pl4
  | 5, _, _, _, _ => pl5
  | 6, _, _, _, _ => pl6
  | 7, _, _, _, _ => pl7
  | 8, _, _, _, _ => pl8
  | 9, _, _, _, _ => pl9
  | 10, _, _, _, _ => pl10
  | 11, _, _, _, _ => pl11
  | 12, _, _, _, _ => pl12
  | 13, _, _, _, _ => pl13
  | 14, _, _, _, _ => pl14
  | 15, _, _, _, _ => pl15
  | 16, _, _, _, _ => pl16
  | 17, _, _, _, _ => pl17
  | 18, _, _, _, _ => pl18
  | 19, _, _, _, _ => pl19
  | 20, _, _, _, _ => pl20
  | 21, _, _, _, _ => pl21
  | 22, _, _, _, _ => pl22
  | 23, _, _, _, _ => pl23
  | 24, _, _, _, _ => pl24
  | 25, _, _, _, _ => pl25
  | 26, _, _, _, _ => pl26
  | 27, _, _, _, _ => pl27
  | 28, _, _, _, _ => pl28
  | 29, _, _, _, _ => pl29
  | 30, _, _, _, _ => pl30
  | 31, _, _, _, _ => pl31
  | 32, _, _, _, _ => pl32
  | 33, _, _, _, _ => pl33
  | 34, _, _, _, _ => pl34
  | 35, _, _, _, _ => pl35
  | 36, _, _, _, h => absurd ⟨by omega, by omega⟩ h
  | 37, _, _, _, h => absurd ⟨by omega, by omega⟩ h
  | 38, _, _, _, h => absurd ⟨by omega, by omega⟩ h
  | 39, _, _, _, h => absurd ⟨by omega, by omega⟩ h
  | 40, _, _, _, h => absurd ⟨by omega, by omega⟩ h
  | 41, _, _, _, h => absurd ⟨by omega, by omega⟩ h
  | 42, _, _, _, h => absurd ⟨by omega, by omega⟩ h
  | 43, _, _, _, h => absurd ⟨by omega, by omega⟩ h
  | 44, _, _, _, h => absurd ⟨by omega, by omega⟩ h
  | 45, _, _, _, h => absurd ⟨by omega, by omega⟩ h
  | 46, _, _, _, _ => pl46
  | 47, _, _, _, _ => pl47
  | 48, _, _, _, _ => pl48
  | 49, _, _, _, _ => pl49
  | 50, _, _, h, _ => absurd rfl h
  | 51, _, _, _, _ => pl51
  | 52, _, _, _, _ => pl52
  | n + 53, _, h, _, _ => absurd h (by omega)
def MdAt (op : Nat) : Prop := ∀ (w : World) (m : MoP) (hm : MoIn w m) (hs : Small m 100000) (a b : Int) (ha : 0 ≤ a ∧ a ≤ 65535) (hb : op ≤ 38 → 0 ≤ b ∧ b ≤ 65535) (ao : Option Addr) (n c : Nat), Calls Tryd.prog 25 #[.agg #[.int .u8 (op : Int), .int .i64 a, .int .i64 b, .slice ao n c], .agg m.cs] w (MadeRet w (effM m op a b))
theorem md36 : MdAt 36 := fun w m hm hs a b ha hb ao n c => rmade36 hm hs.ty hs.fl a b ha.1 ha.2 (hb (by omega)).1 (hb (by omega)).2 ao n c
theorem md37 : MdAt 37 := fun w m hm hs a b ha hb ao n c => rmade37 hm hs.ty hs.fl a b ha.1 ha.2 (hb (by omega)).1 (hb (by omega)).2 ao n c
theorem md38 : MdAt 38 := fun w m hm hs a b ha hb ao n c => rmade38 hm hs.ty hs.fl a b ha.1 ha.2 (hb (by omega)).1 (hb (by omega)).2 ao n c
theorem md39 : MdAt 39 := fun w m hm hs a b ha hb ao n c => rmade39 hm hs.ty a b ha.1 ha.2 ao n c
theorem md40 : MdAt 40 := fun w m hm hs a b ha hb ao n c => rmade40 hm hs.ty a b ha.1 ha.2 ao n c
theorem md41 : MdAt 41 := fun w m hm hs a b ha hb ao n c => rmade41 hm hs.ty a b ha.1 ha.2 ao n c
theorem md42 : MdAt 42 := fun w m hm hs a b ha hb ao n c => rmade42 hm hs.ty a b ha.1 ha.2 ao n c
theorem md43 : MdAt 43 := fun w m hm hs a b ha hb ao n c => rmade43 hm hs.ty a b ha.1 ha.2 ao n c
theorem md44 : MdAt 44 := fun w m hm hs a b ha hb ao n c => rmade44 hm hs.ty a b ha.1 ha.2 ao n c
theorem md45 : MdAt 45 := fun w m hm hs a b ha hb ao n c => rmade45 hm hs.ty a b ha.1 ha.2 ao n c
theorem md_at (op : Nat) (h1 : 36 ≤ op) (h2 : op ≤ 45) : MdAt op := by
  have : op = 36 ∨ op = 37 ∨ op = 38 ∨ op = 39 ∨ op = 40 ∨ op = 41 ∨ op = 42 ∨ op = 43 ∨ op = 44 ∨ op = 45 := by omega
  rcases this with rfl | rfl | rfl | rfl | rfl | rfl | rfl | rfl | rfl | rfl
  · exact md36
  · exact md37
  · exact md38
  · exact md39
  · exact md40
  · exact md41
  · exact md42
  · exact md43
  · exact md44
  · exact md45
theorem eff_plain (m : MoP) {op : Nat} (h6 : op ≠ 6) (h50 : op ≠ 50) (hm : ¬ (36 ≤ op ∧ op ≤ 45)) (a b : Int) : effM m op a b = some (plE6 op a b) := by
  unfold effM plE6
  rw [if_neg h6, if_neg h50, if_neg (by omega), if_neg (by omega), if_neg h6]
end Go.Proofs.YtjfdlphkmpkjdaaDoor
namespace Go.Proofs.YtjfdlphkmpkjdaaDoor
open Go.RowKit
set_option linter.unusedVariables false

set_option maxHeartbeats 8000000 in
set_option maxRecDepth 100000 in
theorem rtakes_as {w : World} {m : MoP} (hm : MoIn w m) (hs : Small m 100000) {x : In} {ao : Option Addr} {cp : Nat} (hl : InLies w x ao) (n : Nat) (hn : n = x.arms.length) (hmx : n ≤ 1000000) :
    Calls Tryd.prog 9 #[insV x (.slice ao n cp), .agg m.cs] w (TakRet w (takM m x)) := by
  obtain ⟨R, HR⟩ : ∃ R, Hid (takM m x = R) := ⟨_, rfl⟩
  rw [HR.out]
  have HIS : Hid (∀ W, Below w.heap.size w W → Calls Tryd.prog 23 #[insV x (.slice ao n cp)] W fun e w' => e = .returned (.bool x.ok) ∧ Below W.heap.size W w') := fun W hb => ris_as (hl.below hb) n hn hmx
  have HPL : Hid (1 ≤ x.op → x.op ≤ 52 → x.op ≠ 50 → ¬ (36 ≤ x.op ∧ x.op ≤ 45) → ∀ W, Calls Tryd.prog 26 #[insV x (.slice ao n cp)] W (TwoRet W (plE6 x.op x.a x.b).1 (plE6 x.op x.a x.b).2)) := fun a b c d W => pl_at x.op a b c d W x.a x.b ao n cp
  have HMD : Hid (36 ≤ x.op → x.op ≤ 45 → (0 ≤ x.a ∧ x.a ≤ 65535) → (x.op ≤ 38 → 0 ≤ x.b ∧ x.b ≤ 65535) → ∀ W, Below w.heap.size w W → Calls Tryd.prog 25 #[insV x (.slice ao n cp), .agg m.cs] W (MadeRet W (effM m x.op x.a x.b))) := fun a b c d W hb => md_at x.op a b W m (hm.below hb) hs x.a x.b c d ao n cp
  have HOW : Hid (∀ (i : Nat) (r : RoP), i < m.fns.length → m.fns.getD i zRP = r → ∀ W, Below w.heap.size w W → (∃ b off, m.fa = some ⟨b, off, none⟩ ∧ W.cell? ⟨b, off + i * 6 + 1, none⟩ = some (.slice r.pa r.r.params.length r.pc) ∧ W.cell? ⟨b, off + i * 6 + 2, none⟩ = some (.slice r.ra r.r.results.length r.rc)) ∧ Calls Tryd.prog 24 #[.slice r.pa r.r.params.length r.pc] W (fun e w' => ∃ v, e = .returned v ∧ IntNew w' W.heap.size v r.r.params ∧ Below W.heap.size W w') ∧ Calls Tryd.prog 24 #[.slice r.ra r.r.results.length r.rc] W (fun e w' => ∃ v, e = .returned v ∧ IntNew w' W.heap.size v r.r.results ∧ Below W.heap.size W w')) := by
    intro i r hi hr W hb
    have hin : r ∈ m.fns := by rw [← hr]; exact getD_in hi
    have hri := (hm.fn r hin).below hb
    have hsr := hs.ro r hin
    obtain ⟨b, off, e, hc⟩ := (hm.fnr.below hb).at hi
    have h1 := hc 1 (by omega)
    have h2 := hc 2 (by omega)
    refine ⟨⟨b, off, e, ?_, ?_⟩, rown_as hri.params rfl hri.pno (by omega), rown_as hri.results rfl hri.rno (by omega)⟩
    · rw [h1, ← hr]; rfl
    · rw [h2, ← hr]; rfl
  have HRR : Hid (R = if x.ok = true then (match effM m x.op x.a x.b with | none => (([], []), 2) | some r => (r, 0)) else (([], []), 120)) := by rw [Hid, ← HR.out]; rfl
  have HOK : Hid (x.ok = true → (1 ≤ x.op ∧ x.op ≤ 52) ∧ ((x.op = 6 ∨ x.op = 50 ∨ (36 ≤ x.op ∧ x.op ≤ 45)) → 0 ≤ x.a ∧ x.a ≤ 65535) ∧ ((36 ≤ x.op ∧ x.op ≤ 38) → 0 ≤ x.b ∧ x.b ≤ 65535)) := ok_short
  have HE6 : Hid (x.op = 6 → effM m x.op x.a x.b = if x.a < (m.txs.length : Int) then some ([], [5]) else none) := fun h => by unfold effM; rw [if_pos h]
  have HE50 : Hid (x.op = 50 → effM m x.op x.a x.b = callM m.fns x.a) := fun h => by unfold effM; rw [if_neg (by omega), if_pos h]
  have HEP : Hid (x.op ≠ 6 → x.op ≠ 50 → ¬ (36 ≤ x.op ∧ x.op ≤ 45) → effM m x.op x.a x.b = some (plE6 x.op x.a x.b)) := fun a b c => eff_plain m a b c _ _
  clear hm hs hl hn hmx HR
  have ox := Own.new w #[.int .u8 (x.op : Int), .int .i64 x.a, .int .i64 x.b, .slice ao n cp] 24
  have bx := new_below w (.cells #[.int .u8 (x.op : Int), .int .i64 x.a, .int .i64 x.b, .slice ao n cp] 24)
  unfold MoP.cs insV at *
  generalize x.ok = OK at *
  generalize x.op = N at *
  generalize x.a = XA at *
  generalize x.b = XB at *
  obtain ⟨n1, hn1⟩ : ∃ n1, m.tys.length = n1 := ⟨_, rfl⟩
  obtain ⟨n2, hn2⟩ : ∃ n2, m.txs.length = n2 := ⟨_, rfl⟩
  obtain ⟨n3, hn3⟩ : ∃ n3, m.fns.length = n3 := ⟨_, rfl⟩
  have HN3 : Hid (m.fns.length = n3) := hn3
  rw [hn1, hn2, hn3] at HMD
  rw [hn2] at HE6
  rw [hn1, hn2, hn3]
  clear hn1 hn2 hn3
  go_enter Tryd.func9, Tryd.ntmps9
  go_upto_region 1 with fail
  have e1 : (w.alloc (.cells #[.int .u8 (N : Int), .int .i64 XA, .int .i64 XB, .slice ao n cp] 24)).heap.size = w.heap.size + 1 := World.size_alloc _ _
  generalize w.alloc (.cells #[.int .u8 (N : Int), .int .i64 XA, .int .i64 XB, .slice ao n cp] 24) = w1 at *
  have om := Own.new w1 #[.slice m.ta n1 m.tc, .slice m.sa n2 m.sc, .slice m.fa n3 m.fc] 29
  have bm := new_below w1 (.cells #[.slice m.ta n1 m.tc, .slice m.sa n2 m.sc, .slice m.fa n3 m.fc] 29)
  have ox1 := ox.below bm
  have b2 := bx.trans (bm.mono bx.size)
  rw [e1] at om
  clear ox bx bm e1
  generalize w1.alloc (.cells #[.slice m.ta n1 m.tc, .slice m.sa n2 m.sc, .slice m.fa n3 m.fc] 29) = w2 at *
  have hC := HIS.out w2 b2
  obtain ⟨x0, x1, x2, x3, xf⟩ := own4 ox1
  go_wp2_with fail
  refine hC.mono ?_
  rintro e w3 ⟨rfl, k3⟩
  have ox3 := ox1.below k3
  have om3 := om.below k3
  have b3 := b2.trans (k3.mono b2.size)
  clear hC x0 x1 x2 x3 xf ox1 om b2 k3 HIS
  obtain ⟨x0, x1, x2, x3, xf⟩ := own4 ox3
  obtain ⟨m0, m1, m2, mf⟩ := own3 om3
  cases OK with
  | false =>
    obtain rfl : (([], []), 120) = R := by rw [HRR.out, if_neg (by simp)]
    clear HPL HMD HOW HRR HOK HE6 HE50 HEP HN3 x0 x1 x2 x3 xf m0 m1 m2 mf ox3 om3
    go_wp2
    go_ret3
    exact ⟨_, _, _, _, rfl, IntNew.nil _ _, IntNew.nil _ _, b3⟩
  | true =>
    obtain ⟨⟨hN1, hN2⟩, hA, hB⟩ := HOK.out rfl
    have HRT : Hid (R = match effM m N XA XB with | none => (([], []), 2) | some r => (r, 0)) := by rw [Hid, HRR.out, if_pos rfl]
    clear HOK HRR
    have hsz := b3.size
    by_cases h6 : N = 6
    · subst h6
      by_cases hlt : XA < (n2 : Int)
      · obtain rfl : (([], [5]), 0) = R := by rw [HRT.out, HE6.out rfl, if_pos hlt]
        have hP : Calls Tryd.prog 26 #[.agg #[.int .u8 ((6 : Nat) : Int), .int .i64 XA, .int .i64 XB, .slice ao n cp]] w3 (TwoRet w3 [] [5]) := HPL.out (by omega) (by omega) (by omega) (by omega) w3
        have hge : ¬ (n2 : Int) ≤ XA := by omega
        clear HPL HMD HOW HRT HE6 HE50 HEP HN3 hA hB
        go_wp2_with fail
        refine hP.mono ?_
        rintro e w4 ⟨a1, c1, a2, c2, rfl, i1, i2, b4⟩
        replace b4 := b3.trans (b4.mono b3.size)
        clear hP x0 x1 x2 x3 xf m0 m1 m2 mf ox3 om3 b3
        go_wp2
        go_ret3
        exact ⟨_, _, _, _, rfl, i1.mono hsz, i2.mono hsz, b4⟩
      · obtain rfl : (([], []), 2) = R := by rw [HRT.out, HE6.out rfl, if_neg hlt]
        have hge : (n2 : Int) ≤ XA := by omega
        clear HPL HMD HOW HRT HE6 HE50 HEP HN3 hA hB
        go_wp2
        go_ret3
        exact ⟨_, _, _, _, rfl, IntNew.nil _ _, IntNew.nil _ _, b3⟩
    · have h6b : ((N : Int) == 6) = false := by simp; omega
      have h6i : ¬ (N : Int) = 6 := by omega
      by_cases h50 : N = 50
      · subst h50
        obtain ⟨hA0, hA1⟩ := hA (.inr (.inl rfl))
        by_cases hlt : XA < (n3 : Int)
        · obtain ⟨i, rfl⟩ := Int.eq_ofNat_of_zero_le hA0
          obtain ⟨r, hr⟩ : ∃ r, m.fns.getD i zRP = r := ⟨_, rfl⟩
          have hin : i < m.fns.length := by have := HN3.out; omega
          obtain rfl : ((r.r.params, r.r.results), 0) = R := by rw [HRT.out, HE50.out rfl]; unfold callM; rw [HN3.out, if_pos hlt, Int.toNat_natCast, hr]
          have HO : Hid (∀ W, Below w.heap.size w W → (∃ b off, m.fa = some ⟨b, off, none⟩ ∧ W.cell? ⟨b, off + i * 6 + 1, none⟩ = some (.slice r.pa r.r.params.length r.pc) ∧ W.cell? ⟨b, off + i * 6 + 2, none⟩ = some (.slice r.ra r.r.results.length r.rc)) ∧ Calls Tryd.prog 24 #[.slice r.pa r.r.params.length r.pc] W (fun e w' => ∃ v, e = .returned v ∧ IntNew w' W.heap.size v r.r.params ∧ Below W.heap.size W w') ∧ Calls Tryd.prog 24 #[.slice r.ra r.r.results.length r.rc] W (fun e w' => ∃ v, e = .returned v ∧ IntNew w' W.heap.size v r.r.results ∧ Below W.heap.size W w')) := fun W hb => HOW.out i r hin hr W hb
          obtain ⟨⟨bb, off, hfa, f1, f2⟩, -, -⟩ := HO.out w3 b3
          have HF : Hid (∀ W, Below w3.heap.size w3 W → W.cell? ⟨bb, off + i * 6 + 1, none⟩ = some (.slice r.pa r.r.params.length r.pc) ∧ W.cell? ⟨bb, off + i * 6 + 2, none⟩ = some (.slice r.ra r.r.results.length r.rc) ∧ W.cell? ⟨w.heap.size, 1, none⟩ = some (.int .i64 (i : Int)) ∧ W.cell? ⟨w.heap.size + 1, 2, none⟩ = some (.slice m.fa n3 m.fc)) := fun W hb => by
            obtain ⟨⟨b', off', e', g1, g2⟩, -, -⟩ := HO.out W (b3.trans (hb.mono b3.size))
            rw [hfa] at e'
            cases e'
            exact ⟨g1, g2, (own4 (Own.below ox3 hb)).2.1, (own3 (Own.below om3 hb)).2.2.1⟩
          have HP : Hid (∀ W, Below w3.heap.size w3 W → Calls Tryd.prog 24 #[.slice r.pa r.r.params.length r.pc] W (fun e w' => ∃ va vc, e = .returned (.slice va r.r.params.length vc) ∧ IntNew w' w.heap.size (.slice va r.r.params.length vc) r.r.params ∧ (w'.cell? ⟨bb, off + i * 6 + 1, none⟩ = some (.slice r.pa r.r.params.length r.pc) ∧ w'.cell? ⟨bb, off + i * 6 + 2, none⟩ = some (.slice r.ra r.r.results.length r.rc) ∧ w'.cell? ⟨w.heap.size, 1, none⟩ = some (.int .i64 (i : Int)) ∧ w'.cell? ⟨w.heap.size + 1, 2, none⟩ = some (.slice m.fa n3 m.fc)) ∧ Below w3.heap.size w3 w' ∧ Below W.heap.size W w')) := fun W hb => by
            refine Calls.mono ((HO.out W (b3.trans (hb.mono b3.size))).2.1) ?_
            rintro e w' ⟨v, rfl, i2, k2⟩
            obtain ⟨va, vc, rfl⟩ := i2.shape
            have hb2 := hb.trans (k2.mono hb.size)
            exact ⟨va, vc, rfl, i2.mono (Nat.le_trans b3.size hb.size), HF.out w' hb2, hb2, k2⟩
          have HQ : Hid (∀ W, Below w3.heap.size w3 W → Calls Tryd.prog 24 #[.slice r.ra r.r.results.length r.rc] W (fun e w' => ∃ va vc, e = .returned (.slice va r.r.results.length vc) ∧ IntNew w' w.heap.size (.slice va r.r.results.length vc) r.r.results ∧ (w'.cell? ⟨bb, off + i * 6 + 1, none⟩ = some (.slice r.pa r.r.params.length r.pc) ∧ w'.cell? ⟨bb, off + i * 6 + 2, none⟩ = some (.slice r.ra r.r.results.length r.rc) ∧ w'.cell? ⟨w.heap.size, 1, none⟩ = some (.int .i64 (i : Int)) ∧ w'.cell? ⟨w.heap.size + 1, 2, none⟩ = some (.slice m.fa n3 m.fc)) ∧ Below w3.heap.size w3 w' ∧ Below W.heap.size W w')) := fun W hb => by
            refine Calls.mono ((HO.out W (b3.trans (hb.mono b3.size))).2.2) ?_
            rintro e w' ⟨v, rfl, i2, k2⟩
            obtain ⟨va, vc, rfl⟩ := i2.shape
            have hb2 := hb.trans (k2.mono hb.size)
            exact ⟨va, vc, rfl, i2.mono (Nat.le_trans b3.size hb.size), HF.out w' hb2, hb2, k2⟩
          have HB3 : Hid _ := b3
          clear HPL HMD HOW HRT HE6 HE50 HEP HN3 hA hB hr hin HO h6 b3
          rw [hfa] at m2 HP HQ
          clear HF
          rw [hfa]
          clear hfa
          clear hN1 hN2 h6b h6i hA0 hA1
          have tok1 : True := trivial
          go_upto_region 6 with fail
          clear x0 x2 x3 xf m0 m1 mf ox3 om3
          go_region_held3 (fun w' => w'.cell? ⟨w.heap.size, 1, none⟩ = some (.int .i64 (i : Int)) ∧ w'.cell? ⟨w.heap.size + 1, 2, none⟩ = some (.slice (some ⟨bb, off, none⟩) n3 m.fc) ∧ w'.cell? ⟨bb, off + i * 6 + 1, none⟩ = some (.slice r.pa r.r.params.length r.pc) ∧ w'.cell? ⟨bb, off + i * 6 + 2, none⟩ = some (.slice r.ra r.r.results.length r.rc)) (go_keep)
            (first
              | (have hz := tok1; clear hz tok1; go_at_call 24; refine (HP.out w3.drew (below_drewd (Below.refl _ w3))).mono ?_; rintro en W2 ⟨va, vc, rfl, i2, ⟨g1, g2, g3, g4⟩, B2, -⟩)
              | (have hz := i2; clear hz; go_at_call 24; refine (HQ.out W2 B2).mono ?_; rintro en W3 ⟨ua, uc, rfl, i3, ⟨y1, y2, y3, y4⟩, B3, B23⟩))
          all_goals (
            have J2 := i2.below B23
            have BF := HB3.out.trans (B3.mono HB3.out.size)
            clear HP HQ HB3 B2 B3 B23 i2 g1 g2 g3 g4 y1 y2 y3 y4 x1 m2 f1 f2
            go_wp2
            go_ret3
            exact ⟨_, _, _, _, rfl, J2, i3, BF⟩)
        · obtain rfl : (([], []), 2) = R := by rw [HRT.out, HE50.out rfl]; unfold callM; rw [HN3.out, if_neg hlt]
          have hge : (n3 : Int) ≤ XA := by omega
          clear HPL HMD HOW HRT HE6 HE50 HEP HN3 hA hB
          go_wp2
          go_ret3
          exact ⟨_, _, _, _, rfl, IntNew.nil _ _, IntNew.nil _ _, b3⟩
      · have h50b : ((N : Int) == 50) = false := by simp; omega
        have h50i : ¬ (N : Int) = 50 := by omega
        by_cases hmd : 36 ≤ N ∧ N ≤ 45
        · have hM := HMD.out hmd.1 hmd.2 (hA (.inr (.inr hmd))) (fun h => hB ⟨hmd.1, h⟩) w3 b3
          have h36 : (36 : Int) ≤ (N : Int) := by omega
          have h45 : (N : Int) ≤ 45 := by omega
          clear HPL HMD HOW HE6 HE50 HEP HN3 hA hB
          go_wp2_with fail
          refine hM.mono ?_
          clear hM
          rintro e w4 ⟨hh, b4⟩
          replace b4 := b3.trans (b4.mono b3.size)
          clear x0 x1 x2 x3 xf m0 m1 m2 mf ox3 om3 b3
          cases hE : effM m N XA XB with
          | none =>
            rw [hE] at hh
            obtain ⟨a1, q1, c1, a2, q2, c2, rfl⟩ := hh
            obtain rfl : (([], []), 2) = R := by rw [HRT.out, hE]
            clear HRT hE
            go_wp2
            go_ret3
            exact ⟨_, _, _, _, rfl, IntNew.nil _ _, IntNew.nil _ _, b4⟩
          | some r =>
            rw [hE] at hh
            obtain ⟨a1, c1, a2, c2, rfl, i1, i2⟩ := hh
            obtain rfl : (r, 0) = R := by rw [HRT.out, hE]
            clear HRT hE
            go_wp2
            go_ret3
            exact ⟨_, _, _, _, rfl, i1.mono hsz, i2.mono hsz, b4⟩
        · have hP := HPL.out hN1 hN2 h50 hmd w3
          have hRr : R = (plE6 N XA XB, 0) := by rw [HRT.out, HEP.out h6 h50 hmd]
          subst hRr
          generalize plE6 N XA XB = PL at *
          have hcase : (¬ (36 : Int) ≤ (N : Int)) ∨ ((36 : Int) ≤ (N : Int) ∧ ¬ (N : Int) ≤ 45) := by omega
          clear HPL HMD HOW HRT HE6 HE50 HEP HN3 hA hB hmd
          rcases hcase with h36 | ⟨h36, h45⟩
          all_goals (
            go_wp2_with fail
            refine hP.mono ?_
            rintro e w4 ⟨a1, c1, a2, c2, rfl, i1, i2, b4⟩
            replace b4 := b3.trans (b4.mono b3.size)
            clear hP x0 x1 x2 x3 xf m0 m1 m2 mf ox3 om3 b3
            go_wp2
            go_ret3
            exact ⟨_, _, _, _, rfl, i1.mono hsz, i2.mono hsz, b4⟩)
end Go.Proofs.YtjfdlphkmpkjdaaDoor
