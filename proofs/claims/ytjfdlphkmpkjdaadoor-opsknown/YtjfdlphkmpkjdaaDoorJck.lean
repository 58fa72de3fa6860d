/-
  CONTRACTS of effectOf and Takes.
-/
import Derived.Test.YtjfdlphkmpkjdaaDoorJts
import Derived.Test.YtjfdlphkmpkjdaaDoorTk18
import Derived.Test.YtjfdlphkmpkjdaaDoorTk19
import Derived.Test.YtjfdlphkmpkjdaaDoorTk20
import Derived.Test.YtjfdlphkmpkjdaaDoorTk21
import Derived.Test.YtjfdlphkmpkjdaaDoorJwr
namespace Go.Proofs.YtjfdlphkmpkjdaaDoor
open Go.RowKit
set_option linter.unusedVariables false

def EffAt (op : Nat) : Prop := ∀ (w : World) (m : MoP) (hm : MoIn w m) (hs : Small m 100000) (a b : Int) (ha : (op = 6 ∨ op = 50 ∨ (36 ≤ op ∧ op ≤ 45)) → 0 ≤ a ∧ a ≤ 65535) (hb : (36 ≤ op ∧ op ≤ 38) → 0 ≤ b ∧ b ≤ 65535) (ao : Option Addr) (n cp : Nat),
  Calls Tryd.prog 27 #[.agg #[.int .u8 (op : Int), .int .i64 a, .int .i64 b, .slice ao n cp], .agg m.cs] w (OutRet w (effM m op a b))
theorem ef1 : EffAt 1 := fun w m hm hs a b ha hb ao n cp => effectOf1 hm hs a b ao n cp
theorem ef2 : EffAt 2 := fun w m hm hs a b ha hb ao n cp => effectOf2 hm hs a b ao n cp
theorem ef3 : EffAt 3 := fun w m hm hs a b ha hb ao n cp => effectOf3 hm hs a b ao n cp
theorem ef4 : EffAt 4 := fun w m hm hs a b ha hb ao n cp => effectOf4 hm hs a b ao n cp
theorem ef5 : EffAt 5 := fun w m hm hs a b ha hb ao n cp => effectOf5 hm hs a b ao n cp
theorem ef6 : EffAt 6 := fun w m hm hs a b ha hb ao n cp => effectOf6 hm hs a b (ha (by omega)) ao n cp
theorem ef7 : EffAt 7 := fun w m hm hs a b ha hb ao n cp => effectOf7 hm hs a b ao n cp
theorem ef8 : EffAt 8 := fun w m hm hs a b ha hb ao n cp => effectOf8 hm hs a b ao n cp
theorem ef9 : EffAt 9 := fun w m hm hs a b ha hb ao n cp => effectOf9 hm hs a b ao n cp
theorem ef10 : EffAt 10 := fun w m hm hs a b ha hb ao n cp => effectOf10 hm hs a b ao n cp
theorem ef11 : EffAt 11 := fun w m hm hs a b ha hb ao n cp => effectOf11 hm hs a b ao n cp
theorem ef12 : EffAt 12 := fun w m hm hs a b ha hb ao n cp => effectOf12 hm hs a b ao n cp
theorem ef13 : EffAt 13 := fun w m hm hs a b ha hb ao n cp => effectOf13 hm hs a b ao n cp
theorem ef14 : EffAt 14 := fun w m hm hs a b ha hb ao n cp => effectOf14 hm hs a b ao n cp
theorem ef15 : EffAt 15 := fun w m hm hs a b ha hb ao n cp => effectOf15 hm hs a b ao n cp
theorem ef16 : EffAt 16 := fun w m hm hs a b ha hb ao n cp => effectOf16 hm hs a b ao n cp
theorem ef17 : EffAt 17 := fun w m hm hs a b ha hb ao n cp => effectOf17 hm hs a b ao n cp
theorem ef18 : EffAt 18 := fun w m hm hs a b ha hb ao n cp => effectOf18 hm hs a b ao n cp
theorem ef19 : EffAt 19 := fun w m hm hs a b ha hb ao n cp => effectOf19 hm hs a b ao n cp
theorem ef20 : EffAt 20 := fun w m hm hs a b ha hb ao n cp => effectOf20 hm hs a b ao n cp
theorem ef21 : EffAt 21 := fun w m hm hs a b ha hb ao n cp => effectOf21 hm hs a b ao n cp
theorem ef22 : EffAt 22 := fun w m hm hs a b ha hb ao n cp => effectOf22 hm hs a b ao n cp
theorem ef23 : EffAt 23 := fun w m hm hs a b ha hb ao n cp => effectOf23 hm hs a b ao n cp
theorem ef24 : EffAt 24 := fun w m hm hs a b ha hb ao n cp => effectOf24 hm hs a b ao n cp
theorem ef25 : EffAt 25 := fun w m hm hs a b ha hb ao n cp => effectOf25 hm hs a b ao n cp
theorem ef26 : EffAt 26 := fun w m hm hs a b ha hb ao n cp => effectOf26 hm hs a b ao n cp
theorem ef27 : EffAt 27 := fun w m hm hs a b ha hb ao n cp => effectOf27 hm hs a b ao n cp
theorem ef28 : EffAt 28 := fun w m hm hs a b ha hb ao n cp => effectOf28 hm hs a b ao n cp
theorem ef29 : EffAt 29 := fun w m hm hs a b ha hb ao n cp => effectOf29 hm hs a b ao n cp
theorem ef30 : EffAt 30 := fun w m hm hs a b ha hb ao n cp => effectOf30 hm hs a b ao n cp
theorem ef31 : EffAt 31 := fun w m hm hs a b ha hb ao n cp => effectOf31 hm hs a b ao n cp
theorem ef32 : EffAt 32 := fun w m hm hs a b ha hb ao n cp => effectOf32 hm hs a b ao n cp
theorem ef33 : EffAt 33 := fun w m hm hs a b ha hb ao n cp => effectOf33 hm hs a b ao n cp
theorem ef34 : EffAt 34 := fun w m hm hs a b ha hb ao n cp => effectOf34 hm hs a b ao n cp
theorem ef35 : EffAt 35 := fun w m hm hs a b ha hb ao n cp => effectOf35 hm hs a b ao n cp
theorem ef36 : EffAt 36 := fun w m hm hs a b ha hb ao n cp => effectOf36 hm hs a b (ha (by omega)) (hb (by omega)) ao n cp
theorem ef37 : EffAt 37 := fun w m hm hs a b ha hb ao n cp => effectOf37 hm hs a b (ha (by omega)) (hb (by omega)) ao n cp
theorem ef38 : EffAt 38 := fun w m hm hs a b ha hb ao n cp => effectOf38 hm hs a b (ha (by omega)) (hb (by omega)) ao n cp
theorem ef39 : EffAt 39 := fun w m hm hs a b ha hb ao n cp => effectOf39 hm hs a b (ha (by omega)) ao n cp
theorem ef40 : EffAt 40 := fun w m hm hs a b ha hb ao n cp => effectOf40 hm hs a b (ha (by omega)) ao n cp
theorem ef41 : EffAt 41 := fun w m hm hs a b ha hb ao n cp => effectOf41 hm hs a b (ha (by omega)) ao n cp
theorem ef42 : EffAt 42 := fun w m hm hs a b ha hb ao n cp => effectOf42 hm hs a b (ha (by omega)) ao n cp
theorem ef43 : EffAt 43 := fun w m hm hs a b ha hb ao n cp => effectOf43 hm hs a b (ha (by omega)) ao n cp
theorem ef44 : EffAt 44 := fun w m hm hs a b ha hb ao n cp => effectOf44 hm hs a b (ha (by omega)) ao n cp
theorem ef45 : EffAt 45 := fun w m hm hs a b ha hb ao n cp => effectOf45 hm hs a b (ha (by omega)) ao n cp
theorem ef46 : EffAt 46 := fun w m hm hs a b ha hb ao n cp => effectOf46 hm hs a b ao n cp
theorem ef47 : EffAt 47 := fun w m hm hs a b ha hb ao n cp => effectOf47 hm hs a b ao n cp
theorem ef48 : EffAt 48 := fun w m hm hs a b ha hb ao n cp => effectOf48 hm hs a b ao n cp
theorem ef49 : EffAt 49 := fun w m hm hs a b ha hb ao n cp => effectOf49 hm hs a b ao n cp
theorem ef50 : EffAt 50 := fun w m hm hs a b ha hb ao n cp => effectOf50 hm hs a b (ha (by omega)) ao n cp
theorem ef51 : EffAt 51 := fun w m hm hs a b ha hb ao n cp => effectOf51 hm hs a b ao n cp
theorem ef52 : EffAt 52 := fun w m hm hs a b ha hb ao n cp => effectOf52 hm hs a b ao n cp
theorem eff_at : ∀ op : Nat, 1 ≤ op → op ≤ 52 → EffAt op
  | 0, h, _ => absurd h (by omega)
  | 1, _, _ => ef1
  | 2, _, _ => ef2
  | 3, _, _ => ef3
  | 4, _, _ => ef4
  | 5, _, _ => ef5
  | 6, _, _ => ef6
  | 7, _, _ => ef7
  | 8, _, _ => ef8
  | 9, _, _ => ef9
  | 10, _, _ => ef10
  | 11, _, _ => ef11
  | 12, _, _ => ef12
  | 13, _, _ => ef13
  | 14, _, _ => ef14
  | 15, _, _ => ef15
  | 16, _, _ => ef16
  | 17, _, _ => ef17
  | 18, _, _ => ef18
  | 19, _, _ => ef19
  | 20, _, _ => ef20
  | 21, _, _ => ef21
  | 22, _, _ => ef22
  | 23, _, _ => ef23
  | 24, _, _ => ef24
  | 25, _, _ => ef25
  | 26, _, _ => ef26
  | 27, _, _ => ef27
  | 28, _, _ => ef28
  | 29, _, _ => ef29
  | 30, _, _ => ef30
  | 31, _, _ => ef31
  | 32, _, _ => ef32
  | 33, _, _ => ef33
  | 34, _, _ => ef34
  | 35, _, _ => ef35
  | 36, _, _ => ef36
  | 37, _, _ => ef37
  | 38, _, _ => ef38
  | 39, _, _ => ef39
  | 40, _, _ => ef40
  | 41, _, _ => ef41
  | 42, _, _ => ef42
  | 43, _, _ => ef43
  | 44, _, _ => ef44
  | 45, _, _ => ef45
  | 46, _, _ => ef46
  | 47, _, _ => ef47
  | 48, _, _ => ef48
  | 49, _, _ => ef49
  | 50, _, _ => ef50
  | 51, _, _ => ef51
  | 52, _, _ => ef52
  | n + 53, _, h => absurd h (by omega)
theorem ok_short {x : In} (h : x.ok = true) : (1 ≤ x.op ∧ x.op ≤ 52) ∧ ((x.op = 6 ∨ x.op = 50 ∨ (36 ≤ x.op ∧ x.op ≤ 45)) → 0 ≤ x.a ∧ x.a ≤ 65535) ∧ ((36 ≤ x.op ∧ x.op ≤ 38) → 0 ≤ x.b ∧ x.b ≤ 65535) := by
  unfold In.ok at h
  cases hl : lay x.op with
  | none => rw [hl] at h; cases h
  | some l =>
    rw [hl] at h
    simp only at h
    have hr := (lay_ok hl).2
    unfold Lay.has at h
    rw [Bool.and_eq_true, Bool.and_eq_true] at h
    refine ⟨hr, fun hx => ?_, fun hx => ?_⟩
    · have ha : l.a = nShort := by
        by_cases h37 : x.op = 37 ∨ x.op = 38
        · have : lay x.op = some ⟨nShort, nShort, false⟩ := by unfold lay; rw [if_neg (by omega), if_neg (by omega), if_neg (by omega), if_neg (by omega), if_pos h37]
          rw [this] at hl; cases hl; rfl
        · have : lay x.op = some ⟨nShort, nNone, false⟩ := by unfold lay; rw [if_neg (by omega), if_neg (by omega), if_neg (by omega), if_pos (by omega)]
          rw [this] at hl; cases hl; rfl
      have := h.1
      rw [ha] at this
      unfold Nm.may nShort at this
      simpa using this
    · have hb : l.b = nShort ∨ l.b = nNone := by
        by_cases h37 : x.op = 37 ∨ x.op = 38
        · have : lay x.op = some ⟨nShort, nShort, false⟩ := by unfold lay; rw [if_neg (by omega), if_neg (by omega), if_neg (by omega), if_neg (by omega), if_pos h37]
          rw [this] at hl; cases hl; exact .inl rfl
        · have : lay x.op = some ⟨nShort, nNone, false⟩ := by unfold lay; rw [if_neg (by omega), if_neg (by omega), if_neg (by omega), if_pos (by omega)]
          rw [this] at hl; cases hl; exact .inr rfl
      have := h.2.1
      rcases hb with hb | hb
      · rw [hb] at this; unfold Nm.may nShort at this; simpa using this
      · rw [hb] at this; unfold Nm.may nNone at this
        have h2 : 0 ≤ x.b ∧ x.b ≤ 0 := by simpa using this
        omega
theorem effectOf_as {w : World} {m : MoP} (hm : MoIn w m) (hs : Small m 100000) {x : In} (hk : x.ok = true) (ao : Option Addr) (n cp : Nat) :
    Calls Tryd.prog 27 #[insV x (.slice ao n cp), .agg m.cs] w (OutRet w (effM m x.op x.a x.b)) := by
  obtain ⟨⟨h1, h2⟩, h3, h4⟩ := ok_short hk
  exact eff_at x.op h1 h2 w m hm hs x.a x.b h3 h4 ao n cp
/-- What Takes tells: the lists, the error. -/
def takM (m : MoP) (x : In) : (List Int × List Int) × Nat := if x.ok = true then (match effM m x.op x.a x.b with | none => (([], []), 2) | some r => (r, 0)) else (([], []), 120)
def TakRet (w : World) (T : (List Int × List Int) × Nat) (e : Ending) (w' : World) : Prop := ∃ ta tc pa pc, e = .returned (.tuple #[.slice ta T.1.1.length tc, .slice pa T.1.2.length pc, .int .i64 (T.2 : Int)]) ∧ IntNew w' w.heap.size (.slice ta T.1.1.length tc) T.1.1 ∧ IntNew w' w.heap.size (.slice pa T.1.2.length pc) T.1.2 ∧ Below w.heap.size w w'
set_option maxHeartbeats 2000000 in
set_option maxRecDepth 100000 in
theorem takes_as {w : World} {m : MoP} (hm : MoIn w m) (hs : Small m 100000) {x : In} {ao : Option Addr} {cp : Nat} (hl : InLies w x ao) (n : Nat) (hn : n = x.arms.length) (hmx : n ≤ 1000000) :
    Calls Tryd.prog 10 #[insV x (.slice ao n cp), .agg m.cs] w (TakRet w (takM m x)) := by
  obtain ⟨R, HR⟩ : ∃ R, Hid (takM m x = R) := ⟨_, rfl⟩
  rw [HR.out]
  have HSZ : Hid (∀ W, Below w.heap.size w W → Calls Tryd.prog 16 #[insV x (.slice ao n cp)] W fun e w' => e = .returned (.int .i64 x.size) ∧ Below W.heap.size W w') := fun W hb => size_as (hl.below hb) n hn hmx
  have HEF : Hid (x.ok = true → ∀ W, Below w.heap.size w W → Calls Tryd.prog 27 #[insV x (.slice ao n cp), .agg m.cs] W (OutRet W (effM m x.op x.a x.b))) := fun hk W hb => effectOf_as (hm.below hb) hs hk ao n cp
  have HPOS : Hid (x.ok = true ↔ 0 < x.size) := size_pos x
  clear hm hs hl hn hmx
  have ox := Own.new w #[.int .u8 (x.op : Int), .int .i64 x.a, .int .i64 x.b, .slice ao n cp] 24
  have bx := new_below w (.cells #[.int .u8 (x.op : Int), .int .i64 x.a, .int .i64 x.b, .slice ao n cp] 24)
  unfold MoP.cs at *
  go_enter Tryd.func10, Tryd.ntmps10
  go_upto_region 1 with fail
  have e1 : (w.alloc (.cells #[.int .u8 (x.op : Int), .int .i64 x.a, .int .i64 x.b, .slice ao n cp] 24)).heap.size = w.heap.size + 1 := World.size_alloc _ _
  generalize w.alloc (.cells #[.int .u8 (x.op : Int), .int .i64 x.a, .int .i64 x.b, .slice ao n cp] 24) = w1 at *
  have om := Own.new w1 #[.slice m.ta m.tys.length m.tc, .slice m.sa m.txs.length m.sc, .slice m.fa m.fns.length m.fc] 29
  have bm := new_below w1 (.cells #[.slice m.ta m.tys.length m.tc, .slice m.sa m.txs.length m.sc, .slice m.fa m.fns.length m.fc] 29)
  have ox1 := ox.below bm
  have b2 := bx.trans (bm.mono bx.size)
  rw [e1] at om
  clear ox bx bm e1
  generalize w1.alloc (.cells #[.slice m.ta m.tys.length m.tc, .slice m.sa m.txs.length m.sc, .slice m.fa m.fns.length m.fc] 29) = w2 at *
  have hC := HSZ.out w2 b2
  obtain ⟨x0, x1, x2, x3, xf⟩ := own4 ox1
  obtain ⟨SZ, hSZ⟩ : ∃ SZ : Nat, x.size = SZ := ⟨_, rfl⟩
  rw [hSZ] at hC HPOS
  go_wp2_with fail
  refine hC.mono ?_
  rintro e w3 ⟨rfl, k3⟩
  have ox3 := ox1.below k3
  have om3 := om.below k3
  have b3 := b2.trans (k3.mono b2.size)
  clear hC x0 x1 x2 x3 xf ox1 om b2 k3 hSZ HSZ
  obtain ⟨x0, x1, x2, x3, xf⟩ := own4 ox3
  obtain ⟨m0, m1, m2, mf⟩ := own3 om3
  cases hk : x.ok with
  | false =>
    obtain rfl : (([], []), 120) = R := by rw [← HR.out]; unfold takM; rw [if_neg (by rw [hk]; simp)]
    have hz : SZ = 0 := by
      have := HPOS.out
      rw [hk] at this
      simp at this
      omega
    subst hz
    clear HPOS HEF HR hk x0 x1 x2 x3 xf m0 m1 m2 mf
    go_wp2
    go_ret3
    exact ⟨_, _, _, _, rfl, IntNew.nil _ _, IntNew.nil _ _, b3⟩
  | true =>
    have hz : 0 < SZ := HPOS.out.1 hk
    have hzd : ((SZ : Int) == 0) = false := by simp; omega
    have hE := HEF.out hk w3 b3
    have HRR : Hid (R = match effM m x.op x.a x.b with | none => (([], []), 2) | some r => (r, 0)) := by rw [Hid, ← HR.out]; unfold takM; rw [if_pos hk]
    clear HPOS HEF HR hk hz
    cases hf : effM m x.op x.a x.b with
    | none =>
      rw [hf] at hE HRR
      obtain rfl : R = (([], []), 2) := HRR.out
      clear HRR hf
      go_wp2_with fail
      refine hE.mono ?_
      rintro e w4 ⟨⟨ta, tn, tc, pa, pn, pc, rfl⟩, k4⟩
      have b4 := b3.trans (k4.mono b3.size)
      have b5 := b4.alloc b4.size (.cells #[.slice ta tn tc, .slice pa pn pc] 69)
      clear hE k4 b3 x0 x1 x2 x3 xf m0 m1 m2 mf
      go_wp2
      go_ret3
      exact ⟨_, _, _, _, rfl, IntNew.nil _ _, IntNew.nil _ _, b5⟩
    | some r =>
      rw [hf] at hE HRR
      obtain rfl : R = (r, 0) := HRR.out
      clear HRR hf
      go_wp2_with fail
      refine hE.mono ?_
      rintro e w4 ⟨⟨ta, tc, pa, pc, rfl, i4, j4⟩, k4⟩
      have b4 := b3.trans (k4.mono b3.size)
      have bn := new_below w4 (.cells #[.slice ta r.1.length tc, .slice pa r.2.length pc] 69)
      have oE := Own.new w4 #[.slice ta r.1.length tc, .slice pa r.2.length pc] 69
      have b5 := b4.alloc b4.size (.cells #[.slice ta r.1.length tc, .slice pa r.2.length pc] 69)
      have i5 := (i4.mono b3.size).below bn
      have j5 := (j4.mono b3.size).below bn
      clear hE k4 b3 x0 x1 x2 x3 xf m0 m1 m2 mf i4 j4 b4 bn
      go_upto_region 6 with fail
      generalize w4.alloc (.cells #[.slice ta r.1.length tc, .slice pa r.2.length pc] 69) = w5 at *
      obtain ⟨y0, y1, yf⟩ := own2 oE
      go_quiet (fail)
      go_wp2
      go_ret3
      exact ⟨_, _, _, _, rfl, ⟨i5.row.drewN _, i5.new⟩, ⟨j5.row.drewN _, j5.new⟩, below_drawn b5 _⟩
end Go.Proofs.YtjfdlphkmpkjdaaDoor
