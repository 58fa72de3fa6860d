/-
  CONTRACT of the document's reader: arms.
-/
import Derived.Test.YtffnlcamobekoaaDoorRv
import Derived.Test.YtffnlcamobekoaaDoorQw
import Derived.Deep.LoopGhost
namespace Go.Proofs.YtffnlcamobekoaaDoor
open Go.RowKit
set_option linter.unusedVariables false

theorem RrAt.fr {F : Nat → Prop} {w w' : World} {r : Nat} {a : Option Addr} {L cap : Nat} {s : St} (h : RrAt w r a L cap s) (hk : Fr F w w') (hne : ¬ F r) : RrAt w' r a L cap s := by
  obtain ⟨p, ho, hp⟩ := h
  exact ⟨p, ho.fr hk hne, hp⟩
theorem RrAt.below {w w' : World} {r : Nat} {a : Option Addr} {L cap : Nat} {s : St} (h : RrAt w r a L cap s) (hb : Below w.heap.size w w') : RrAt w' r a L cap s := h.fr (F := fun _ => False) (Fr.of hb) id
theorem RrAt.lt {w : World} {r : Nat} {a : Option Addr} {L cap : Nat} {s : St} (h : RrAt w r a L cap s) : r < w.heap.size := by obtain ⟨p, ho, hp⟩ := h; exact ho.lt
theorem nVal_shape (x : Int) : ∃ lo hi, nVal x = ⟨8, true, lo, hi⟩ := by
  unfold nVal nI64
  split
  · exact ⟨_, _, rfl⟩
  · split <;> exact ⟨_, _, rfl⟩
theorem rd_in {k : Nm} {xs : List Nat} {s : St} (hs : s.2 = 0 → s.1 ≤ xs.length) : (k.rd xs s).2.2 = 0 → (k.rd xs s).2.1 ≤ xs.length := by
  unfold Nm.rd
  split
  · exact hs
  · split
    · intro h; cases h
    · split
      · intro _; show s.1 + k.sz ≤ _; omega
      · intro h; cases h
def RaRet (w : World) (r : Nat) (a : Option Addr) (L cap : Nat) (R : List (Int × Int) × St) (e : Ending) (w' : World) : Prop :=
  ∃ v ps, e = .returned v ∧ Rw w' 46 2 v ps.length (armC ps) ∧ (∀ b, v.ownBlock = some b → w.heap.size ≤ b) ∧ (R.2.2 = 0 → ps = R.1) ∧ RrRet r a L cap R.2 w w'
structure RaRel (w : World) (r : Nat) (a : Option Addr) (L cap : Nat) (k : Nm) (xs : List Nat) (gV n : Nat) (R : List (Int × Int) × St) (g : Nat) (v i : Value) (wr : World) : Prop where
  ex : ∃ (acc : List (Int × Int)) (s1 : St), acc.length + g = n ∧ i = .int .i64 (acc.length : Int) ∧ Rw wr 46 2 v acc.length (armC acc) ∧ (∀ b, v.ownBlock = some b → w.heap.size ≤ b) ∧ (s1.2 = 0 → s1.1 ≤ xs.length) ∧ (s1.2 ≠ 0 → R.2 = s1) ∧ (s1.2 = 0 → R = joinA acc (armsR k xs g s1)) ∧ RrAt wr r a L cap s1
  oV : Own wr gV (partC k).toArray 67
  fr : Fr (fun b => b = r) w wr
set_option maxHeartbeats 4000000 in
set_option maxRecDepth 100000 in
theorem rrarms_0 {w : World} {r : Nat} {a : Option Addr} {L cap : Nat} {xs : List Nat} (s : St) (h : RrAt w r a L cap s) (hl : Lies w a xs) (hL : L = xs.length) (hs : s.2 = 0 → s.1 ≤ L) (ha : ∀ b off, a = some ⟨b, off, none⟩ → ¬ b = r) :
    Calls Tryd.prog 43 #[ptr r, .int .i64 0] w (RaRet w r a L cap (armsR (nVal 0) xs (nShort.rd xs s).1.toNat (nShort.rd xs s).2)) := by
  obtain ⟨R, HRR⟩ : ∃ R, Hid (armsR (nVal 0) xs (nShort.rd xs s).1.toNat (nShort.rd xs s).2 = R) := ⟨_, rfl⟩
  rw [HRR.out]
  have hrl := h.lt
  have HA : Hid (∀ b off, a = some ⟨b, off, none⟩ → ¬ b = r) := ha
  have HL : Hid (L = xs.length) := hL
  have hsx : s.2 = 0 → s.1 ≤ xs.length := by rw [← hL]; exact hs
  have hn1 := short_rd xs s
  obtain ⟨n, hn⟩ : ∃ n : Nat, (nShort.rd xs s).1 = (n : Int) := Int.eq_ofNat_of_zero_le hn1.1
  have hn65 : n ≤ 65535 := by omega
  have HN : Hid ((nShort.rd xs s).1 = (n : Int)) := hn
  have C0 : Hid (∀ W, RrAt W r a L cap s → Lies W a xs → Calls Tryd.prog 42 #[ptr r, .agg (partC nShort).toArray] W fun e w' => e = .returned (.int .i64 (n : Int)) ∧ RrRet r a L cap (nShort.rd xs s).2 W w') := by
    intro W h1 h2
    have := rrnum_as kindShort h2 hL h1 hs
    rw [hn] at this
    exact this
  have HLi : Hid (Lies w a xs) := hl
  clear ha hn1 hn hs hL hl
  go_enter Tryd.func43, Tryd.ntmps43
  go_wp2_with fail
  refine (rplace_any _).mono ?_
  rintro e w1 ⟨rfl, b1⟩
  replace h := h.below b1
  have hl1 : Lies w1 a xs := HLi.out.fr (F := fun _ => False) (Fr.of b1) (fun _ _ _ q => q)
  have hfr : Fr (fun b => b = r) w w1 := Fr.of b1
  clear b1 HLi
  go_wp2_with fail
  refine Calls.mono (C0.out w1 h hl1) ?_
  rintro e w2 ⟨rfl, h2, f2⟩
  have hl2 : Hid (Lies w2 a xs) := hl1.fr f2 HA.out
  replace hfr := hfr.trans f2
  have hs5 := rd_in (k := nShort) hsx
  have hbad : (nShort.rd xs s).2.2 ≠ 0 → n = 0 := by
    intro hb
    have : (nShort.rd xs s).1 = 0 := by
      revert hb
      unfold Nm.rd
      split
      · intro _; rfl
      · split
        · intro _; rfl
        · split
          · intro q; exact absurd rfl q
          · intro _; rfl
    have := HN.out; omega
  have HRR2 : Hid (R = armsR (nVal 0) xs n (nShort.rd xs s).2) := by unfold Hid; rw [← HRR.out, HN.out, Int.toNat_natCast]
  clear HRR HN hsx
  generalize (nShort.rd xs s).2 = s5 at *
  clear f2 h hl1 C0
  go_wp2_with fail
  refine Calls.mono (Q02.rbits_as 0 0 rfl _) ?_
  rintro e w3 ⟨rfl, rfl⟩
  have oV0 := Own.new w2 #[.int .i64 8, .int .i64 (-9223372036854775808), .int .i64 9223372036854775807, .bool true] 67
  have b4 := new_below w2 (.cells #[.int .i64 8, .int .i64 (-9223372036854775808), .int .i64 9223372036854775807, .bool true] 67)
  go_upto_region 4 with fail
  generalize w2.alloc (.cells #[.int .i64 8, .int .i64 (-9223372036854775808), .int .i64 9223372036854775807, .bool true] 67) = w4 at *
  obtain ⟨gV, HGV⟩ : ∃ g, Hid (w2.heap.size ≤ g) ∧ g = w2.heap.size := ⟨_, Nat.le_refl _, rfl⟩
  obtain ⟨HGV, e0⟩ := HGV
  rw [← e0] at oV0
  rw [← e0]
  have hgr : ¬ gV = r := by have := h2.lt; omega
  clear e0
  have oV := oV0
  have bV := b4
  go_upto_region 7 with fail
  generalize w4 = w5 at *
  have h5 := h2.below bV
  have f5 : Fr (fun b => b = r) w w5 := hfr.trans (Fr.of bV)
  have hl5 : Lies w5 a xs := hl2.out.fr (F := fun _ => False) (Fr.of bV) (fun _ _ _ q => q)
  clear h2 hfr hl2 bV
  have HLW : Hid (∀ wr, Fr (fun b => b = r) w5 wr → Lies wr a xs) := fun wr hq => hl5.fr hq HA.out
  have HF5 : Hid (Fr (fun b => b = r) w w5) := f5
  have REL : Hid (RaRel w5 r a L cap (nVal 0) xs gV n R n (.slice none 0 0) (.int .i64 0) w5) :=
    ⟨⟨[], s5, by simp, rfl, World.ownsRow_nil _ _ _ _, by simp [Value.ownBlock], hs5, fun q => by rw [HRR2.out, hbad q]; rfl, fun _ => HRR2.out.trans (joinA_nil _ _ _ _), h5⟩, oV, Fr.refl _ _⟩
  clear oV h5 f5 hl5 hs5 hbad HRR2
  go_wp2_with fail
  go_loopg [8, 9] n (fun g v i wr => RaRel w5 r a L cap (nVal 0) xs gV n R g v i wr)
  case atStart => exact REL.out
  case round =>
    obtain ⟨⟨acc, s1, hlen, rfl, hrow, hnew, hsl, hbd, hgd, hat⟩, oV, hf5⟩ := hrel
    have hlr := HLW.out wr hf5
    obtain ⟨ao, cp, rfl, -⟩ := hrow.shape
    have HZ : Hid (s1.2 ≠ 0 ∨ gk = 0 → RaRet w r a L cap R (.returned (.slice ao acc.length cp)) wr) := by
      intro hq
      have hR2 : R.2 = s1 ∧ (R.2.2 = 0 → acc = R.1) := by
        by_cases q : s1.2 = 0
        · have hg : gk = 0 := hq.resolve_left (fun z => z q)
          subst hg
          have := hgd q
          unfold armsR joinA at this
          rw [if_neg (by simpa using q)] at this
          rw [this]; exact ⟨rfl, fun _ => by simp⟩
        · have := hbd q
          exact ⟨this, fun z => absurd (by rw [← this]; exact z) q⟩
      exact ⟨_, acc, rfl, hrow, fun b q => Nat.le_trans HF5.out.size (hnew b q), hR2.2, by rw [hR2.1]; exact ⟨hat, HF5.out.trans hf5⟩⟩
    obtain ⟨p, ho, hp⟩ := hat
    obtain ⟨c0, c1, c2, cf⟩ := own3 ho
    cases gk with
    | zero =>
      have hd : decide ((acc.length : Int) < n) = false := by simp; omega
      have HZ2 : Hid (RaRet w r a L cap R (.returned (.slice ao acc.length cp)) wr) := HZ.out (.inr rfl)
      clear hrow hnew hsl hbd hgd oV hf5 hlr hlen REL HF5 HLW HZ ho hp c0 c1 c2 cf
      generalize (acc.length : Int) = K at *
      go_wp2
      go_ret
      exact HZ2.out
    | succ gk =>
      have hd : decide ((acc.length : Int) < n) = true := by simp; omega
      by_cases hs0 : s1.2 = 0
      · cases e1 : (nVal 0).rd xs s1 with
        | mk V1 s2 =>
        cases e2 : nPlace.rd xs s2 with
        | mk V2 s3 =>
        have hs2 : s2.2 = 0 → s2.1 ≤ xs.length := by have := rd_in (k := nVal 0) hsl; rw [e1] at this; exact this
        have hs3 : s3.2 = 0 → s3.1 ≤ xs.length := by have := rd_in (k := nPlace) hs2; rw [e2] at this; exact this
        have C1 : Hid (∀ W, RrAt W r a L cap s1 → Lies W a xs → Calls Tryd.prog 42 #[ptr r, .agg #[.int .i64 8, .int .i64 (-9223372036854775808), .int .i64 9223372036854775807, .bool true]] W fun e w' => e = .returned (.int .i64 V1) ∧ RrRet r a L cap s2 W w') := by
          intro W h1 h2
          have := rrnum_as (kindVal 0) h2 HL.out h1 (by rw [HL.out]; exact hsl)
          rw [e1] at this
          exact this
        have C2 : Hid (∀ W, RrAt W r a L cap s2 → Lies W a xs → Calls Tryd.prog 42 #[ptr r, .agg (partC nPlace).toArray] W fun e w' => e = .returned (.int .i64 V2) ∧ RrRet r a L cap s3 W w') := by
          intro W h1 h2
          have := rrnum_as kindPlace h2 HL.out h1 (by rw [HL.out]; exact hs2)
          rw [e2] at this
          exact this
        have HG : Hid (s3.2 = 0 → R = joinA (acc ++ [(V1, V2)]) (armsR (nVal 0) xs gk s3)) := by
          intro q
          have := joinA_good (k := nVal 0) (xs := xs) (n := gk) (s := s1) (acc := acc) (by rw [e1, e2]; exact q)
          rw [e1] at this
          simp only [e2] at this
          rw [hgd hs0, this]
        have HB : Hid (s3.2 ≠ 0 → R.2 = s3) := by
          intro q
          have := joinA_bad (k := nVal 0) (xs := xs) (n := gk) (s := s1) (acc := acc) (by rw [e1, e2]; exact q)
          rw [e1] at this
          simp only [e2] at this
          rw [hgd hs0, this]
        have HLEN : Hid (acc.length + (gk + 1) = n) := hlen
        have HNEW : Hid (∀ b, (Value.slice ao acc.length cp).ownBlock = some b → w5.heap.size ≤ b) := hnew
        have HAT : Hid (RrAt wr r a L cap s1) := ⟨p, ho, hp⟩
        have HOV := oV
        have hs0b : (((s1.2 : Nat) : Int) == 0) = true := by simp [hs0]
        have hlt : acc.length < n := by omega
        have hHS3 : Hid (s3.2 = 0 → s3.1 ≤ xs.length) := hs3
        obtain ⟨d0, d1, d2, d3, df⟩ := own4 (show Own wr gV #[.int .i64 8, .int .i64 (-9223372036854775808), .int .i64 9223372036854775807, .bool true] 67 from oV)
        generalize ((s1.2 : Nat) : Int) = E1 at *
        have hlw : Hid (Lies wr a xs) := hlr
        have hf5h : Hid (Fr (fun b => b = r) w5 wr) := hf5
        clear hnew hsl hbd hgd hlr hlen HZ ho hp REL e1 e2 hs2 hs3 hs0 oV hf5
        go_wp2_with fail
        refine Calls.mono (C1.out wr HAT.out hlw.out) ?_
        rintro e w6 ⟨rfl, h6, f6⟩
        replace hrow := hrow.fr f6 (fun b q e => by have := HNEW.out b q; have h0 := HF5.out.size; omega)
        replace HOV := HOV.fr f6 hgr
        have hf6 := hf5h.out.trans f6
        clear c0 c1 c2 cf d0 d1 d2 d3 df C1 HAT hlw hf5h f6
        go_wp2_with fail
        refine (rleap_any _).mono ?_
        rintro e w7 ⟨rfl, b7⟩
        replace h6 := h6.below b7
        replace hrow := hrow.fr (F := fun _ => False) (Fr.of b7) (fun _ _ q => q)
        replace HOV := HOV.below b7
        replace hf6 := hf6.trans (Fr.of b7)
        clear b7
        go_wp2_with fail
        refine Calls.mono (C2.out w7 h6 (HLW.out w7 hf6)) ?_
        rintro e w8 ⟨rfl, h8, f8⟩
        replace hrow := hrow.fr f8 (fun b q e => by have := HNEW.out b q; have h0 := HF5.out.size; omega)
        replace HOV := HOV.fr f8 hgr
        replace hf6 := hf6.trans f8
        clear h6 f8 C2
        have oE := Own.new w8 #[.int .i64 V1, .int .i64 V2] 46
        have rowA := hrow.alloc (.cells #[.int .i64 V1, .int .i64 V2] 46)
        have hne : ∀ k, (Value.slice ao acc.length cp).ownBlock = some k → w5.heap.size ≤ k := HNEW.out
        have HA2 : Hid (∀ ao2 cap2 wz, Rw wz 46 2 (.slice ao2 (acc.length + 1) cap2) (acc.length + 1) (armC acc ++ [.int .i64 V1, .int .i64 V2]) → (w8.alloc (.cells #[.int .i64 V1, .int .i64 V2] 46)).grownBy wz (Value.slice ao acc.length cp).ownBlock → ((Value.slice ao2 (acc.length + 1) cap2).ownBlock = (Value.slice ao acc.length cp).ownBlock ∨ (Value.slice ao2 (acc.length + 1) cap2).ownBlock = some (w8.alloc (.cells #[.int .i64 V1, .int .i64 V2] 46)).heap.size) →
            RaRel w5 r a L cap (nVal 0) xs gV n R gk (.slice ao2 (acc.length + 1) cap2) (.int .i64 ((acc ++ [(V1, V2)]).length : Int)) wz) := by
          intro ao2 cap2 wz q1 q2 q3
          have hrne : ∀ {g : Nat} {cs : Array Value} {t : TypeId}, Own w8 g cs t → 46 ≠ t → Own wz g cs t := fun {g cs t} h ht => (h.alloc _).grown q2 (fun e => rowA.ne (h.alloc _) ht e.symm)
          refine ⟨⟨acc ++ [(V1, V2)], s3, by have := HLEN.out; simp; omega, rfl, ?_, ?_, hHS3.out, HB.out, HG.out, ?_⟩, hrne HOV (by decide), ?_⟩
          · rw [armC_append, List.length_append]; exact q1
          · intro b e
            rcases q3 with q3 | q3
            · exact hne b (by rw [← q3]; exact e)
            · rw [q3] at e; cases e; have := hf6.size; simp; omega
          · obtain ⟨p8, o8, hp8⟩ := h8
            exact ⟨p8, hrne o8 (by decide), hp8⟩
          · exact (hf6.alloc _).grown q2 (fun k hk e => by have := hne k e; omega)
        have hsm : acc.length ≤ 65535 := by omega
        clear h8 hf6 hrow HOV
        go_wp2_with (refine wpList_app1 okA (by rfl) (.tmp 52) (.tmp 56) (by rfl) _ acc.length (armC acc) (by rfl) rowA w8.heap.size [.int .i64 V1, .int .i64 V2] (by rfl) oE rfl (by simp [Value.oneCell']) (by omega) ?_; intro ao2 cap2 wz q1 q2 q3)
        have HR := HA2.out ao2 cap2 wz q1 q2 q3
        clear q1 q2 q3 rowA oE HA2
        go_roundg gk
        case measure => omega
        case rel =>
          have e9 : ((acc ++ [(V1, V2)]).length : Int) = (acc.length : Int) + 1 := by simp
          rw [e9] at HR
          exact HR
      · have HZ2 : Hid (RaRet w r a L cap R (.returned (.slice ao acc.length cp)) wr) := HZ.out (.inl hs0)
        have hs0b : (((s1.2 : Nat) : Int) == 0) = false := by simp; omega
        generalize ((s1.2 : Nat) : Int) = E1 at *
        clear hrow hnew hsl hbd hgd oV hf5 hlr hlen REL HF5 HLW HZ ho hp hs0
        generalize (acc.length : Int) = K at *
        go_wp2
        go_ret
        exact HZ2.out
set_option maxHeartbeats 4000000 in
set_option maxRecDepth 100000 in
theorem rrarms_1 {w : World} {r : Nat} {a : Option Addr} {L cap : Nat} {xs : List Nat} (s : St) (h : RrAt w r a L cap s) (hl : Lies w a xs) (hL : L = xs.length) (hs : s.2 = 0 → s.1 ≤ L) (ha : ∀ b off, a = some ⟨b, off, none⟩ → ¬ b = r) :
    Calls Tryd.prog 43 #[ptr r, .int .i64 1] w (RaRet w r a L cap (armsR (nVal 1) xs (nShort.rd xs s).1.toNat (nShort.rd xs s).2)) := by
  obtain ⟨R, HRR⟩ : ∃ R, Hid (armsR (nVal 1) xs (nShort.rd xs s).1.toNat (nShort.rd xs s).2 = R) := ⟨_, rfl⟩
  rw [HRR.out]
  have hrl := h.lt
  have HA : Hid (∀ b off, a = some ⟨b, off, none⟩ → ¬ b = r) := ha
  have HL : Hid (L = xs.length) := hL
  have hsx : s.2 = 0 → s.1 ≤ xs.length := by rw [← hL]; exact hs
  have hn1 := short_rd xs s
  obtain ⟨n, hn⟩ : ∃ n : Nat, (nShort.rd xs s).1 = (n : Int) := Int.eq_ofNat_of_zero_le hn1.1
  have hn65 : n ≤ 65535 := by omega
  have HN : Hid ((nShort.rd xs s).1 = (n : Int)) := hn
  have C0 : Hid (∀ W, RrAt W r a L cap s → Lies W a xs → Calls Tryd.prog 42 #[ptr r, .agg (partC nShort).toArray] W fun e w' => e = .returned (.int .i64 (n : Int)) ∧ RrRet r a L cap (nShort.rd xs s).2 W w') := by
    intro W h1 h2
    have := rrnum_as kindShort h2 hL h1 hs
    rw [hn] at this
    exact this
  have HLi : Hid (Lies w a xs) := hl
  clear ha hn1 hn hs hL hl
  go_enter Tryd.func43, Tryd.ntmps43
  go_wp2_with fail
  refine (rplace_any _).mono ?_
  rintro e w1 ⟨rfl, b1⟩
  replace h := h.below b1
  have hl1 : Lies w1 a xs := HLi.out.fr (F := fun _ => False) (Fr.of b1) (fun _ _ _ q => q)
  have hfr : Fr (fun b => b = r) w w1 := Fr.of b1
  clear b1 HLi
  go_wp2_with fail
  refine Calls.mono (C0.out w1 h hl1) ?_
  rintro e w2 ⟨rfl, h2, f2⟩
  have hl2 : Hid (Lies w2 a xs) := hl1.fr f2 HA.out
  replace hfr := hfr.trans f2
  have hs5 := rd_in (k := nShort) hsx
  have hbad : (nShort.rd xs s).2.2 ≠ 0 → n = 0 := by
    intro hb
    have : (nShort.rd xs s).1 = 0 := by
      revert hb
      unfold Nm.rd
      split
      · intro _; rfl
      · split
        · intro _; rfl
        · split
          · intro q; exact absurd rfl q
          · intro _; rfl
    have := HN.out; omega
  have HRR2 : Hid (R = armsR (nVal 1) xs n (nShort.rd xs s).2) := by unfold Hid; rw [← HRR.out, HN.out, Int.toNat_natCast]
  clear HRR HN hsx
  generalize (nShort.rd xs s).2 = s5 at *
  clear f2 h hl1 C0
  go_wp2_with fail
  refine Calls.mono (Q02.rbits_as 1 8 rfl _) ?_
  rintro e w3 ⟨rfl, rfl⟩
  have oV0 := Own.new w2 #[.int .i64 8, .int .i64 (-9223372036854775808), .int .i64 9223372036854775807, .bool true] 67
  have b4 := new_below w2 (.cells #[.int .i64 8, .int .i64 (-9223372036854775808), .int .i64 9223372036854775807, .bool true] 67)
  go_upto_region 4 with fail
  generalize w2.alloc (.cells #[.int .i64 8, .int .i64 (-9223372036854775808), .int .i64 9223372036854775807, .bool true] 67) = w4 at *
  obtain ⟨gV, HGV⟩ : ∃ g, Hid (w2.heap.size ≤ g) ∧ g = w2.heap.size := ⟨_, Nat.le_refl _, rfl⟩
  obtain ⟨HGV, e0⟩ := HGV
  rw [← e0] at oV0
  rw [← e0]
  have hgr : ¬ gV = r := by have := h2.lt; omega
  clear e0
  have oV : Own ((w4.setCell ⟨gV, 1, none⟩ (.int .i64 (-128))).setCell ⟨gV, 2, none⟩ (.int .i64 127)) gV #[.int .i64 8, .int .i64 (-128), .int .i64 127, .bool true] 67 := by simpa using (oV0.set 1 (.int .i64 (-128))).set 2 (.int .i64 127)
  have bV : Below w2.heap.size w2 ((w4.setCell ⟨gV, 1, none⟩ (.int .i64 (-128))).setCell ⟨gV, 2, none⟩ (.int .i64 127)) := (b4.setCell (p := ⟨gV, 1, none⟩) HGV.out _).setCell (p := ⟨gV, 2, none⟩) HGV.out _
  obtain ⟨d0, d1, d2, d3, df⟩ := own4 oV0
  go_upto_region 7 with fail
  clear d0 d1 d2 d3 df oV0 b4
  generalize (w4.setCell ⟨gV, 1, none⟩ (.int .i64 (-128))).setCell ⟨gV, 2, none⟩ (.int .i64 127) = w5 at *
  have h5 := h2.below bV
  have f5 : Fr (fun b => b = r) w w5 := hfr.trans (Fr.of bV)
  have hl5 : Lies w5 a xs := hl2.out.fr (F := fun _ => False) (Fr.of bV) (fun _ _ _ q => q)
  clear h2 hfr hl2 bV
  have HLW : Hid (∀ wr, Fr (fun b => b = r) w5 wr → Lies wr a xs) := fun wr hq => hl5.fr hq HA.out
  have HF5 : Hid (Fr (fun b => b = r) w w5) := f5
  have REL : Hid (RaRel w5 r a L cap (nVal 1) xs gV n R n (.slice none 0 0) (.int .i64 0) w5) :=
    ⟨⟨[], s5, by simp, rfl, World.ownsRow_nil _ _ _ _, by simp [Value.ownBlock], hs5, fun q => by rw [HRR2.out, hbad q]; rfl, fun _ => HRR2.out.trans (joinA_nil _ _ _ _), h5⟩, oV, Fr.refl _ _⟩
  clear oV h5 f5 hl5 hs5 hbad HRR2
  go_wp2_with fail
  go_loopg [8, 9] n (fun g v i wr => RaRel w5 r a L cap (nVal 1) xs gV n R g v i wr)
  case atStart => exact REL.out
  case round =>
    obtain ⟨⟨acc, s1, hlen, rfl, hrow, hnew, hsl, hbd, hgd, hat⟩, oV, hf5⟩ := hrel
    have hlr := HLW.out wr hf5
    obtain ⟨ao, cp, rfl, -⟩ := hrow.shape
    have HZ : Hid (s1.2 ≠ 0 ∨ gk = 0 → RaRet w r a L cap R (.returned (.slice ao acc.length cp)) wr) := by
      intro hq
      have hR2 : R.2 = s1 ∧ (R.2.2 = 0 → acc = R.1) := by
        by_cases q : s1.2 = 0
        · have hg : gk = 0 := hq.resolve_left (fun z => z q)
          subst hg
          have := hgd q
          unfold armsR joinA at this
          rw [if_neg (by simpa using q)] at this
          rw [this]; exact ⟨rfl, fun _ => by simp⟩
        · have := hbd q
          exact ⟨this, fun z => absurd (by rw [← this]; exact z) q⟩
      exact ⟨_, acc, rfl, hrow, fun b q => Nat.le_trans HF5.out.size (hnew b q), hR2.2, by rw [hR2.1]; exact ⟨hat, HF5.out.trans hf5⟩⟩
    obtain ⟨p, ho, hp⟩ := hat
    obtain ⟨c0, c1, c2, cf⟩ := own3 ho
    cases gk with
    | zero =>
      have hd : decide ((acc.length : Int) < n) = false := by simp; omega
      have HZ2 : Hid (RaRet w r a L cap R (.returned (.slice ao acc.length cp)) wr) := HZ.out (.inr rfl)
      clear hrow hnew hsl hbd hgd oV hf5 hlr hlen REL HF5 HLW HZ ho hp c0 c1 c2 cf
      generalize (acc.length : Int) = K at *
      go_wp2
      go_ret
      exact HZ2.out
    | succ gk =>
      have hd : decide ((acc.length : Int) < n) = true := by simp; omega
      by_cases hs0 : s1.2 = 0
      · cases e1 : (nVal 1).rd xs s1 with
        | mk V1 s2 =>
        cases e2 : nPlace.rd xs s2 with
        | mk V2 s3 =>
        have hs2 : s2.2 = 0 → s2.1 ≤ xs.length := by have := rd_in (k := nVal 1) hsl; rw [e1] at this; exact this
        have hs3 : s3.2 = 0 → s3.1 ≤ xs.length := by have := rd_in (k := nPlace) hs2; rw [e2] at this; exact this
        have C1 : Hid (∀ W, RrAt W r a L cap s1 → Lies W a xs → Calls Tryd.prog 42 #[ptr r, .agg #[.int .i64 8, .int .i64 (-128), .int .i64 127, .bool true]] W fun e w' => e = .returned (.int .i64 V1) ∧ RrRet r a L cap s2 W w') := by
          intro W h1 h2
          have := rrnum_as (kindVal 1) h2 HL.out h1 (by rw [HL.out]; exact hsl)
          rw [e1] at this
          exact this
        have C2 : Hid (∀ W, RrAt W r a L cap s2 → Lies W a xs → Calls Tryd.prog 42 #[ptr r, .agg (partC nPlace).toArray] W fun e w' => e = .returned (.int .i64 V2) ∧ RrRet r a L cap s3 W w') := by
          intro W h1 h2
          have := rrnum_as kindPlace h2 HL.out h1 (by rw [HL.out]; exact hs2)
          rw [e2] at this
          exact this
        have HG : Hid (s3.2 = 0 → R = joinA (acc ++ [(V1, V2)]) (armsR (nVal 1) xs gk s3)) := by
          intro q
          have := joinA_good (k := nVal 1) (xs := xs) (n := gk) (s := s1) (acc := acc) (by rw [e1, e2]; exact q)
          rw [e1] at this
          simp only [e2] at this
          rw [hgd hs0, this]
        have HB : Hid (s3.2 ≠ 0 → R.2 = s3) := by
          intro q
          have := joinA_bad (k := nVal 1) (xs := xs) (n := gk) (s := s1) (acc := acc) (by rw [e1, e2]; exact q)
          rw [e1] at this
          simp only [e2] at this
          rw [hgd hs0, this]
        have HLEN : Hid (acc.length + (gk + 1) = n) := hlen
        have HNEW : Hid (∀ b, (Value.slice ao acc.length cp).ownBlock = some b → w5.heap.size ≤ b) := hnew
        have HAT : Hid (RrAt wr r a L cap s1) := ⟨p, ho, hp⟩
        have HOV := oV
        have hs0b : (((s1.2 : Nat) : Int) == 0) = true := by simp [hs0]
        have hlt : acc.length < n := by omega
        have hHS3 : Hid (s3.2 = 0 → s3.1 ≤ xs.length) := hs3
        obtain ⟨d0, d1, d2, d3, df⟩ := own4 (show Own wr gV #[.int .i64 8, .int .i64 (-128), .int .i64 127, .bool true] 67 from oV)
        generalize ((s1.2 : Nat) : Int) = E1 at *
        have hlw : Hid (Lies wr a xs) := hlr
        have hf5h : Hid (Fr (fun b => b = r) w5 wr) := hf5
        clear hnew hsl hbd hgd hlr hlen HZ ho hp REL e1 e2 hs2 hs3 hs0 oV hf5
        go_wp2_with fail
        refine Calls.mono (C1.out wr HAT.out hlw.out) ?_
        rintro e w6 ⟨rfl, h6, f6⟩
        replace hrow := hrow.fr f6 (fun b q e => by have := HNEW.out b q; have h0 := HF5.out.size; omega)
        replace HOV := HOV.fr f6 hgr
        have hf6 := hf5h.out.trans f6
        clear c0 c1 c2 cf d0 d1 d2 d3 df C1 HAT hlw hf5h f6
        go_wp2_with fail
        refine (rleap_any _).mono ?_
        rintro e w7 ⟨rfl, b7⟩
        replace h6 := h6.below b7
        replace hrow := hrow.fr (F := fun _ => False) (Fr.of b7) (fun _ _ q => q)
        replace HOV := HOV.below b7
        replace hf6 := hf6.trans (Fr.of b7)
        clear b7
        go_wp2_with fail
        refine Calls.mono (C2.out w7 h6 (HLW.out w7 hf6)) ?_
        rintro e w8 ⟨rfl, h8, f8⟩
        replace hrow := hrow.fr f8 (fun b q e => by have := HNEW.out b q; have h0 := HF5.out.size; omega)
        replace HOV := HOV.fr f8 hgr
        replace hf6 := hf6.trans f8
        clear h6 f8 C2
        have oE := Own.new w8 #[.int .i64 V1, .int .i64 V2] 46
        have rowA := hrow.alloc (.cells #[.int .i64 V1, .int .i64 V2] 46)
        have hne : ∀ k, (Value.slice ao acc.length cp).ownBlock = some k → w5.heap.size ≤ k := HNEW.out
        have HA2 : Hid (∀ ao2 cap2 wz, Rw wz 46 2 (.slice ao2 (acc.length + 1) cap2) (acc.length + 1) (armC acc ++ [.int .i64 V1, .int .i64 V2]) → (w8.alloc (.cells #[.int .i64 V1, .int .i64 V2] 46)).grownBy wz (Value.slice ao acc.length cp).ownBlock → ((Value.slice ao2 (acc.length + 1) cap2).ownBlock = (Value.slice ao acc.length cp).ownBlock ∨ (Value.slice ao2 (acc.length + 1) cap2).ownBlock = some (w8.alloc (.cells #[.int .i64 V1, .int .i64 V2] 46)).heap.size) →
            RaRel w5 r a L cap (nVal 1) xs gV n R gk (.slice ao2 (acc.length + 1) cap2) (.int .i64 ((acc ++ [(V1, V2)]).length : Int)) wz) := by
          intro ao2 cap2 wz q1 q2 q3
          have hrne : ∀ {g : Nat} {cs : Array Value} {t : TypeId}, Own w8 g cs t → 46 ≠ t → Own wz g cs t := fun {g cs t} h ht => (h.alloc _).grown q2 (fun e => rowA.ne (h.alloc _) ht e.symm)
          refine ⟨⟨acc ++ [(V1, V2)], s3, by have := HLEN.out; simp; omega, rfl, ?_, ?_, hHS3.out, HB.out, HG.out, ?_⟩, hrne HOV (by decide), ?_⟩
          · rw [armC_append, List.length_append]; exact q1
          · intro b e
            rcases q3 with q3 | q3
            · exact hne b (by rw [← q3]; exact e)
            · rw [q3] at e; cases e; have := hf6.size; simp; omega
          · obtain ⟨p8, o8, hp8⟩ := h8
            exact ⟨p8, hrne o8 (by decide), hp8⟩
          · exact (hf6.alloc _).grown q2 (fun k hk e => by have := hne k e; omega)
        have hsm : acc.length ≤ 65535 := by omega
        clear h8 hf6 hrow HOV
        go_wp2_with (refine wpList_app1 okA (by rfl) (.tmp 52) (.tmp 56) (by rfl) _ acc.length (armC acc) (by rfl) rowA w8.heap.size [.int .i64 V1, .int .i64 V2] (by rfl) oE rfl (by simp [Value.oneCell']) (by omega) ?_; intro ao2 cap2 wz q1 q2 q3)
        have HR := HA2.out ao2 cap2 wz q1 q2 q3
        clear q1 q2 q3 rowA oE HA2
        go_roundg gk
        case measure => omega
        case rel =>
          have e9 : ((acc ++ [(V1, V2)]).length : Int) = (acc.length : Int) + 1 := by simp
          rw [e9] at HR
          exact HR
      · have HZ2 : Hid (RaRet w r a L cap R (.returned (.slice ao acc.length cp)) wr) := HZ.out (.inl hs0)
        have hs0b : (((s1.2 : Nat) : Int) == 0) = false := by simp; omega
        generalize ((s1.2 : Nat) : Int) = E1 at *
        clear hrow hnew hsl hbd hgd oV hf5 hlr hlen REL HF5 HLW HZ ho hp hs0
        generalize (acc.length : Int) = K at *
        go_wp2
        go_ret
        exact HZ2.out
set_option maxHeartbeats 4000000 in
set_option maxRecDepth 100000 in
theorem rrarms_2 {w : World} {r : Nat} {a : Option Addr} {L cap : Nat} {xs : List Nat} (s : St) (h : RrAt w r a L cap s) (hl : Lies w a xs) (hL : L = xs.length) (hs : s.2 = 0 → s.1 ≤ L) (ha : ∀ b off, a = some ⟨b, off, none⟩ → ¬ b = r) :
    Calls Tryd.prog 43 #[ptr r, .int .i64 2] w (RaRet w r a L cap (armsR (nVal 2) xs (nShort.rd xs s).1.toNat (nShort.rd xs s).2)) := by
  obtain ⟨R, HRR⟩ : ∃ R, Hid (armsR (nVal 2) xs (nShort.rd xs s).1.toNat (nShort.rd xs s).2 = R) := ⟨_, rfl⟩
  rw [HRR.out]
  have hrl := h.lt
  have HA : Hid (∀ b off, a = some ⟨b, off, none⟩ → ¬ b = r) := ha
  have HL : Hid (L = xs.length) := hL
  have hsx : s.2 = 0 → s.1 ≤ xs.length := by rw [← hL]; exact hs
  have hn1 := short_rd xs s
  obtain ⟨n, hn⟩ : ∃ n : Nat, (nShort.rd xs s).1 = (n : Int) := Int.eq_ofNat_of_zero_le hn1.1
  have hn65 : n ≤ 65535 := by omega
  have HN : Hid ((nShort.rd xs s).1 = (n : Int)) := hn
  have C0 : Hid (∀ W, RrAt W r a L cap s → Lies W a xs → Calls Tryd.prog 42 #[ptr r, .agg (partC nShort).toArray] W fun e w' => e = .returned (.int .i64 (n : Int)) ∧ RrRet r a L cap (nShort.rd xs s).2 W w') := by
    intro W h1 h2
    have := rrnum_as kindShort h2 hL h1 hs
    rw [hn] at this
    exact this
  have HLi : Hid (Lies w a xs) := hl
  clear ha hn1 hn hs hL hl
  go_enter Tryd.func43, Tryd.ntmps43
  go_wp2_with fail
  refine (rplace_any _).mono ?_
  rintro e w1 ⟨rfl, b1⟩
  replace h := h.below b1
  have hl1 : Lies w1 a xs := HLi.out.fr (F := fun _ => False) (Fr.of b1) (fun _ _ _ q => q)
  have hfr : Fr (fun b => b = r) w w1 := Fr.of b1
  clear b1 HLi
  go_wp2_with fail
  refine Calls.mono (C0.out w1 h hl1) ?_
  rintro e w2 ⟨rfl, h2, f2⟩
  have hl2 : Hid (Lies w2 a xs) := hl1.fr f2 HA.out
  replace hfr := hfr.trans f2
  have hs5 := rd_in (k := nShort) hsx
  have hbad : (nShort.rd xs s).2.2 ≠ 0 → n = 0 := by
    intro hb
    have : (nShort.rd xs s).1 = 0 := by
      revert hb
      unfold Nm.rd
      split
      · intro _; rfl
      · split
        · intro _; rfl
        · split
          · intro q; exact absurd rfl q
          · intro _; rfl
    have := HN.out; omega
  have HRR2 : Hid (R = armsR (nVal 2) xs n (nShort.rd xs s).2) := by unfold Hid; rw [← HRR.out, HN.out, Int.toNat_natCast]
  clear HRR HN hsx
  generalize (nShort.rd xs s).2 = s5 at *
  clear f2 h hl1 C0
  go_wp2_with fail
  refine Calls.mono (Q02.rbits_as 2 32 rfl _) ?_
  rintro e w3 ⟨rfl, rfl⟩
  have oV0 := Own.new w2 #[.int .i64 8, .int .i64 (-9223372036854775808), .int .i64 9223372036854775807, .bool true] 67
  have b4 := new_below w2 (.cells #[.int .i64 8, .int .i64 (-9223372036854775808), .int .i64 9223372036854775807, .bool true] 67)
  go_upto_region 4 with fail
  generalize w2.alloc (.cells #[.int .i64 8, .int .i64 (-9223372036854775808), .int .i64 9223372036854775807, .bool true] 67) = w4 at *
  obtain ⟨gV, HGV⟩ : ∃ g, Hid (w2.heap.size ≤ g) ∧ g = w2.heap.size := ⟨_, Nat.le_refl _, rfl⟩
  obtain ⟨HGV, e0⟩ := HGV
  rw [← e0] at oV0
  rw [← e0]
  have hgr : ¬ gV = r := by have := h2.lt; omega
  clear e0
  have oV : Own ((w4.setCell ⟨gV, 1, none⟩ (.int .i64 (-2147483648))).setCell ⟨gV, 2, none⟩ (.int .i64 2147483647)) gV #[.int .i64 8, .int .i64 (-2147483648), .int .i64 2147483647, .bool true] 67 := by simpa using (oV0.set 1 (.int .i64 (-2147483648))).set 2 (.int .i64 2147483647)
  have bV : Below w2.heap.size w2 ((w4.setCell ⟨gV, 1, none⟩ (.int .i64 (-2147483648))).setCell ⟨gV, 2, none⟩ (.int .i64 2147483647)) := (b4.setCell (p := ⟨gV, 1, none⟩) HGV.out _).setCell (p := ⟨gV, 2, none⟩) HGV.out _
  obtain ⟨d0, d1, d2, d3, df⟩ := own4 oV0
  go_upto_region 7 with fail
  clear d0 d1 d2 d3 df oV0 b4
  generalize (w4.setCell ⟨gV, 1, none⟩ (.int .i64 (-2147483648))).setCell ⟨gV, 2, none⟩ (.int .i64 2147483647) = w5 at *
  have h5 := h2.below bV
  have f5 : Fr (fun b => b = r) w w5 := hfr.trans (Fr.of bV)
  have hl5 : Lies w5 a xs := hl2.out.fr (F := fun _ => False) (Fr.of bV) (fun _ _ _ q => q)
  clear h2 hfr hl2 bV
  have HLW : Hid (∀ wr, Fr (fun b => b = r) w5 wr → Lies wr a xs) := fun wr hq => hl5.fr hq HA.out
  have HF5 : Hid (Fr (fun b => b = r) w w5) := f5
  have REL : Hid (RaRel w5 r a L cap (nVal 2) xs gV n R n (.slice none 0 0) (.int .i64 0) w5) :=
    ⟨⟨[], s5, by simp, rfl, World.ownsRow_nil _ _ _ _, by simp [Value.ownBlock], hs5, fun q => by rw [HRR2.out, hbad q]; rfl, fun _ => HRR2.out.trans (joinA_nil _ _ _ _), h5⟩, oV, Fr.refl _ _⟩
  clear oV h5 f5 hl5 hs5 hbad HRR2
  go_wp2_with fail
  go_loopg [8, 9] n (fun g v i wr => RaRel w5 r a L cap (nVal 2) xs gV n R g v i wr)
  case atStart => exact REL.out
  case round =>
    obtain ⟨⟨acc, s1, hlen, rfl, hrow, hnew, hsl, hbd, hgd, hat⟩, oV, hf5⟩ := hrel
    have hlr := HLW.out wr hf5
    obtain ⟨ao, cp, rfl, -⟩ := hrow.shape
    have HZ : Hid (s1.2 ≠ 0 ∨ gk = 0 → RaRet w r a L cap R (.returned (.slice ao acc.length cp)) wr) := by
      intro hq
      have hR2 : R.2 = s1 ∧ (R.2.2 = 0 → acc = R.1) := by
        by_cases q : s1.2 = 0
        · have hg : gk = 0 := hq.resolve_left (fun z => z q)
          subst hg
          have := hgd q
          unfold armsR joinA at this
          rw [if_neg (by simpa using q)] at this
          rw [this]; exact ⟨rfl, fun _ => by simp⟩
        · have := hbd q
          exact ⟨this, fun z => absurd (by rw [← this]; exact z) q⟩
      exact ⟨_, acc, rfl, hrow, fun b q => Nat.le_trans HF5.out.size (hnew b q), hR2.2, by rw [hR2.1]; exact ⟨hat, HF5.out.trans hf5⟩⟩
    obtain ⟨p, ho, hp⟩ := hat
    obtain ⟨c0, c1, c2, cf⟩ := own3 ho
    cases gk with
    | zero =>
      have hd : decide ((acc.length : Int) < n) = false := by simp; omega
      have HZ2 : Hid (RaRet w r a L cap R (.returned (.slice ao acc.length cp)) wr) := HZ.out (.inr rfl)
      clear hrow hnew hsl hbd hgd oV hf5 hlr hlen REL HF5 HLW HZ ho hp c0 c1 c2 cf
      generalize (acc.length : Int) = K at *
      go_wp2
      go_ret
      exact HZ2.out
    | succ gk =>
      have hd : decide ((acc.length : Int) < n) = true := by simp; omega
      by_cases hs0 : s1.2 = 0
      · cases e1 : (nVal 2).rd xs s1 with
        | mk V1 s2 =>
        cases e2 : nPlace.rd xs s2 with
        | mk V2 s3 =>
        have hs2 : s2.2 = 0 → s2.1 ≤ xs.length := by have := rd_in (k := nVal 2) hsl; rw [e1] at this; exact this
        have hs3 : s3.2 = 0 → s3.1 ≤ xs.length := by have := rd_in (k := nPlace) hs2; rw [e2] at this; exact this
        have C1 : Hid (∀ W, RrAt W r a L cap s1 → Lies W a xs → Calls Tryd.prog 42 #[ptr r, .agg #[.int .i64 8, .int .i64 (-2147483648), .int .i64 2147483647, .bool true]] W fun e w' => e = .returned (.int .i64 V1) ∧ RrRet r a L cap s2 W w') := by
          intro W h1 h2
          have := rrnum_as (kindVal 2) h2 HL.out h1 (by rw [HL.out]; exact hsl)
          rw [e1] at this
          exact this
        have C2 : Hid (∀ W, RrAt W r a L cap s2 → Lies W a xs → Calls Tryd.prog 42 #[ptr r, .agg (partC nPlace).toArray] W fun e w' => e = .returned (.int .i64 V2) ∧ RrRet r a L cap s3 W w') := by
          intro W h1 h2
          have := rrnum_as kindPlace h2 HL.out h1 (by rw [HL.out]; exact hs2)
          rw [e2] at this
          exact this
        have HG : Hid (s3.2 = 0 → R = joinA (acc ++ [(V1, V2)]) (armsR (nVal 2) xs gk s3)) := by
          intro q
          have := joinA_good (k := nVal 2) (xs := xs) (n := gk) (s := s1) (acc := acc) (by rw [e1, e2]; exact q)
          rw [e1] at this
          simp only [e2] at this
          rw [hgd hs0, this]
        have HB : Hid (s3.2 ≠ 0 → R.2 = s3) := by
          intro q
          have := joinA_bad (k := nVal 2) (xs := xs) (n := gk) (s := s1) (acc := acc) (by rw [e1, e2]; exact q)
          rw [e1] at this
          simp only [e2] at this
          rw [hgd hs0, this]
        have HLEN : Hid (acc.length + (gk + 1) = n) := hlen
        have HNEW : Hid (∀ b, (Value.slice ao acc.length cp).ownBlock = some b → w5.heap.size ≤ b) := hnew
        have HAT : Hid (RrAt wr r a L cap s1) := ⟨p, ho, hp⟩
        have HOV := oV
        have hs0b : (((s1.2 : Nat) : Int) == 0) = true := by simp [hs0]
        have hlt : acc.length < n := by omega
        have hHS3 : Hid (s3.2 = 0 → s3.1 ≤ xs.length) := hs3
        obtain ⟨d0, d1, d2, d3, df⟩ := own4 (show Own wr gV #[.int .i64 8, .int .i64 (-2147483648), .int .i64 2147483647, .bool true] 67 from oV)
        generalize ((s1.2 : Nat) : Int) = E1 at *
        have hlw : Hid (Lies wr a xs) := hlr
        have hf5h : Hid (Fr (fun b => b = r) w5 wr) := hf5
        clear hnew hsl hbd hgd hlr hlen HZ ho hp REL e1 e2 hs2 hs3 hs0 oV hf5
        go_wp2_with fail
        refine Calls.mono (C1.out wr HAT.out hlw.out) ?_
        rintro e w6 ⟨rfl, h6, f6⟩
        replace hrow := hrow.fr f6 (fun b q e => by have := HNEW.out b q; have h0 := HF5.out.size; omega)
        replace HOV := HOV.fr f6 hgr
        have hf6 := hf5h.out.trans f6
        clear c0 c1 c2 cf d0 d1 d2 d3 df C1 HAT hlw hf5h f6
        go_wp2_with fail
        refine (rleap_any _).mono ?_
        rintro e w7 ⟨rfl, b7⟩
        replace h6 := h6.below b7
        replace hrow := hrow.fr (F := fun _ => False) (Fr.of b7) (fun _ _ q => q)
        replace HOV := HOV.below b7
        replace hf6 := hf6.trans (Fr.of b7)
        clear b7
        go_wp2_with fail
        refine Calls.mono (C2.out w7 h6 (HLW.out w7 hf6)) ?_
        rintro e w8 ⟨rfl, h8, f8⟩
        replace hrow := hrow.fr f8 (fun b q e => by have := HNEW.out b q; have h0 := HF5.out.size; omega)
        replace HOV := HOV.fr f8 hgr
        replace hf6 := hf6.trans f8
        clear h6 f8 C2
        have oE := Own.new w8 #[.int .i64 V1, .int .i64 V2] 46
        have rowA := hrow.alloc (.cells #[.int .i64 V1, .int .i64 V2] 46)
        have hne : ∀ k, (Value.slice ao acc.length cp).ownBlock = some k → w5.heap.size ≤ k := HNEW.out
        have HA2 : Hid (∀ ao2 cap2 wz, Rw wz 46 2 (.slice ao2 (acc.length + 1) cap2) (acc.length + 1) (armC acc ++ [.int .i64 V1, .int .i64 V2]) → (w8.alloc (.cells #[.int .i64 V1, .int .i64 V2] 46)).grownBy wz (Value.slice ao acc.length cp).ownBlock → ((Value.slice ao2 (acc.length + 1) cap2).ownBlock = (Value.slice ao acc.length cp).ownBlock ∨ (Value.slice ao2 (acc.length + 1) cap2).ownBlock = some (w8.alloc (.cells #[.int .i64 V1, .int .i64 V2] 46)).heap.size) →
            RaRel w5 r a L cap (nVal 2) xs gV n R gk (.slice ao2 (acc.length + 1) cap2) (.int .i64 ((acc ++ [(V1, V2)]).length : Int)) wz) := by
          intro ao2 cap2 wz q1 q2 q3
          have hrne : ∀ {g : Nat} {cs : Array Value} {t : TypeId}, Own w8 g cs t → 46 ≠ t → Own wz g cs t := fun {g cs t} h ht => (h.alloc _).grown q2 (fun e => rowA.ne (h.alloc _) ht e.symm)
          refine ⟨⟨acc ++ [(V1, V2)], s3, by have := HLEN.out; simp; omega, rfl, ?_, ?_, hHS3.out, HB.out, HG.out, ?_⟩, hrne HOV (by decide), ?_⟩
          · rw [armC_append, List.length_append]; exact q1
          · intro b e
            rcases q3 with q3 | q3
            · exact hne b (by rw [← q3]; exact e)
            · rw [q3] at e; cases e; have := hf6.size; simp; omega
          · obtain ⟨p8, o8, hp8⟩ := h8
            exact ⟨p8, hrne o8 (by decide), hp8⟩
          · exact (hf6.alloc _).grown q2 (fun k hk e => by have := hne k e; omega)
        have hsm : acc.length ≤ 65535 := by omega
        clear h8 hf6 hrow HOV
        go_wp2_with (refine wpList_app1 okA (by rfl) (.tmp 52) (.tmp 56) (by rfl) _ acc.length (armC acc) (by rfl) rowA w8.heap.size [.int .i64 V1, .int .i64 V2] (by rfl) oE rfl (by simp [Value.oneCell']) (by omega) ?_; intro ao2 cap2 wz q1 q2 q3)
        have HR := HA2.out ao2 cap2 wz q1 q2 q3
        clear q1 q2 q3 rowA oE HA2
        go_roundg gk
        case measure => omega
        case rel =>
          have e9 : ((acc ++ [(V1, V2)]).length : Int) = (acc.length : Int) + 1 := by simp
          rw [e9] at HR
          exact HR
      · have HZ2 : Hid (RaRet w r a L cap R (.returned (.slice ao acc.length cp)) wr) := HZ.out (.inl hs0)
        have hs0b : (((s1.2 : Nat) : Int) == 0) = false := by simp; omega
        generalize ((s1.2 : Nat) : Int) = E1 at *
        clear hrow hnew hsl hbd hgd oV hf5 hlr hlen REL HF5 HLW HZ ho hp hs0
        generalize (acc.length : Int) = K at *
        go_wp2
        go_ret
        exact HZ2.out
set_option maxHeartbeats 4000000 in
set_option maxRecDepth 100000 in
theorem rrarms_3 {w : World} {r : Nat} {a : Option Addr} {L cap : Nat} {xs : List Nat} (s : St) (h : RrAt w r a L cap s) (hl : Lies w a xs) (hL : L = xs.length) (hs : s.2 = 0 → s.1 ≤ L) (ha : ∀ b off, a = some ⟨b, off, none⟩ → ¬ b = r) :
    Calls Tryd.prog 43 #[ptr r, .int .i64 3] w (RaRet w r a L cap (armsR (nVal 3) xs (nShort.rd xs s).1.toNat (nShort.rd xs s).2)) := by
  obtain ⟨R, HRR⟩ : ∃ R, Hid (armsR (nVal 3) xs (nShort.rd xs s).1.toNat (nShort.rd xs s).2 = R) := ⟨_, rfl⟩
  rw [HRR.out]
  have hrl := h.lt
  have HA : Hid (∀ b off, a = some ⟨b, off, none⟩ → ¬ b = r) := ha
  have HL : Hid (L = xs.length) := hL
  have hsx : s.2 = 0 → s.1 ≤ xs.length := by rw [← hL]; exact hs
  have hn1 := short_rd xs s
  obtain ⟨n, hn⟩ : ∃ n : Nat, (nShort.rd xs s).1 = (n : Int) := Int.eq_ofNat_of_zero_le hn1.1
  have hn65 : n ≤ 65535 := by omega
  have HN : Hid ((nShort.rd xs s).1 = (n : Int)) := hn
  have C0 : Hid (∀ W, RrAt W r a L cap s → Lies W a xs → Calls Tryd.prog 42 #[ptr r, .agg (partC nShort).toArray] W fun e w' => e = .returned (.int .i64 (n : Int)) ∧ RrRet r a L cap (nShort.rd xs s).2 W w') := by
    intro W h1 h2
    have := rrnum_as kindShort h2 hL h1 hs
    rw [hn] at this
    exact this
  have HLi : Hid (Lies w a xs) := hl
  clear ha hn1 hn hs hL hl
  go_enter Tryd.func43, Tryd.ntmps43
  go_wp2_with fail
  refine (rplace_any _).mono ?_
  rintro e w1 ⟨rfl, b1⟩
  replace h := h.below b1
  have hl1 : Lies w1 a xs := HLi.out.fr (F := fun _ => False) (Fr.of b1) (fun _ _ _ q => q)
  have hfr : Fr (fun b => b = r) w w1 := Fr.of b1
  clear b1 HLi
  go_wp2_with fail
  refine Calls.mono (C0.out w1 h hl1) ?_
  rintro e w2 ⟨rfl, h2, f2⟩
  have hl2 : Hid (Lies w2 a xs) := hl1.fr f2 HA.out
  replace hfr := hfr.trans f2
  have hs5 := rd_in (k := nShort) hsx
  have hbad : (nShort.rd xs s).2.2 ≠ 0 → n = 0 := by
    intro hb
    have : (nShort.rd xs s).1 = 0 := by
      revert hb
      unfold Nm.rd
      split
      · intro _; rfl
      · split
        · intro _; rfl
        · split
          · intro q; exact absurd rfl q
          · intro _; rfl
    have := HN.out; omega
  have HRR2 : Hid (R = armsR (nVal 3) xs n (nShort.rd xs s).2) := by unfold Hid; rw [← HRR.out, HN.out, Int.toNat_natCast]
  clear HRR HN hsx
  generalize (nShort.rd xs s).2 = s5 at *
  clear f2 h hl1 C0
  go_wp2_with fail
  refine Calls.mono (Q02.rbits_as 3 64 rfl _) ?_
  rintro e w3 ⟨rfl, rfl⟩
  have oV0 := Own.new w2 #[.int .i64 8, .int .i64 (-9223372036854775808), .int .i64 9223372036854775807, .bool true] 67
  have b4 := new_below w2 (.cells #[.int .i64 8, .int .i64 (-9223372036854775808), .int .i64 9223372036854775807, .bool true] 67)
  go_upto_region 4 with fail
  generalize w2.alloc (.cells #[.int .i64 8, .int .i64 (-9223372036854775808), .int .i64 9223372036854775807, .bool true] 67) = w4 at *
  obtain ⟨gV, HGV⟩ : ∃ g, Hid (w2.heap.size ≤ g) ∧ g = w2.heap.size := ⟨_, Nat.le_refl _, rfl⟩
  obtain ⟨HGV, e0⟩ := HGV
  rw [← e0] at oV0
  rw [← e0]
  have hgr : ¬ gV = r := by have := h2.lt; omega
  clear e0
  have oV := oV0
  have bV := b4
  go_upto_region 7 with fail
  generalize w4 = w5 at *
  have h5 := h2.below bV
  have f5 : Fr (fun b => b = r) w w5 := hfr.trans (Fr.of bV)
  have hl5 : Lies w5 a xs := hl2.out.fr (F := fun _ => False) (Fr.of bV) (fun _ _ _ q => q)
  clear h2 hfr hl2 bV
  have HLW : Hid (∀ wr, Fr (fun b => b = r) w5 wr → Lies wr a xs) := fun wr hq => hl5.fr hq HA.out
  have HF5 : Hid (Fr (fun b => b = r) w w5) := f5
  have REL : Hid (RaRel w5 r a L cap (nVal 3) xs gV n R n (.slice none 0 0) (.int .i64 0) w5) :=
    ⟨⟨[], s5, by simp, rfl, World.ownsRow_nil _ _ _ _, by simp [Value.ownBlock], hs5, fun q => by rw [HRR2.out, hbad q]; rfl, fun _ => HRR2.out.trans (joinA_nil _ _ _ _), h5⟩, oV, Fr.refl _ _⟩
  clear oV h5 f5 hl5 hs5 hbad HRR2
  go_wp2_with fail
  go_loopg [8, 9] n (fun g v i wr => RaRel w5 r a L cap (nVal 3) xs gV n R g v i wr)
  case atStart => exact REL.out
  case round =>
    obtain ⟨⟨acc, s1, hlen, rfl, hrow, hnew, hsl, hbd, hgd, hat⟩, oV, hf5⟩ := hrel
    have hlr := HLW.out wr hf5
    obtain ⟨ao, cp, rfl, -⟩ := hrow.shape
    have HZ : Hid (s1.2 ≠ 0 ∨ gk = 0 → RaRet w r a L cap R (.returned (.slice ao acc.length cp)) wr) := by
      intro hq
      have hR2 : R.2 = s1 ∧ (R.2.2 = 0 → acc = R.1) := by
        by_cases q : s1.2 = 0
        · have hg : gk = 0 := hq.resolve_left (fun z => z q)
          subst hg
          have := hgd q
          unfold armsR joinA at this
          rw [if_neg (by simpa using q)] at this
          rw [this]; exact ⟨rfl, fun _ => by simp⟩
        · have := hbd q
          exact ⟨this, fun z => absurd (by rw [← this]; exact z) q⟩
      exact ⟨_, acc, rfl, hrow, fun b q => Nat.le_trans HF5.out.size (hnew b q), hR2.2, by rw [hR2.1]; exact ⟨hat, HF5.out.trans hf5⟩⟩
    obtain ⟨p, ho, hp⟩ := hat
    obtain ⟨c0, c1, c2, cf⟩ := own3 ho
    cases gk with
    | zero =>
      have hd : decide ((acc.length : Int) < n) = false := by simp; omega
      have HZ2 : Hid (RaRet w r a L cap R (.returned (.slice ao acc.length cp)) wr) := HZ.out (.inr rfl)
      clear hrow hnew hsl hbd hgd oV hf5 hlr hlen REL HF5 HLW HZ ho hp c0 c1 c2 cf
      generalize (acc.length : Int) = K at *
      go_wp2
      go_ret
      exact HZ2.out
    | succ gk =>
      have hd : decide ((acc.length : Int) < n) = true := by simp; omega
      by_cases hs0 : s1.2 = 0
      · cases e1 : (nVal 3).rd xs s1 with
        | mk V1 s2 =>
        cases e2 : nPlace.rd xs s2 with
        | mk V2 s3 =>
        have hs2 : s2.2 = 0 → s2.1 ≤ xs.length := by have := rd_in (k := nVal 3) hsl; rw [e1] at this; exact this
        have hs3 : s3.2 = 0 → s3.1 ≤ xs.length := by have := rd_in (k := nPlace) hs2; rw [e2] at this; exact this
        have C1 : Hid (∀ W, RrAt W r a L cap s1 → Lies W a xs → Calls Tryd.prog 42 #[ptr r, .agg #[.int .i64 8, .int .i64 (-9223372036854775808), .int .i64 9223372036854775807, .bool true]] W fun e w' => e = .returned (.int .i64 V1) ∧ RrRet r a L cap s2 W w') := by
          intro W h1 h2
          have := rrnum_as (kindVal 3) h2 HL.out h1 (by rw [HL.out]; exact hsl)
          rw [e1] at this
          exact this
        have C2 : Hid (∀ W, RrAt W r a L cap s2 → Lies W a xs → Calls Tryd.prog 42 #[ptr r, .agg (partC nPlace).toArray] W fun e w' => e = .returned (.int .i64 V2) ∧ RrRet r a L cap s3 W w') := by
          intro W h1 h2
          have := rrnum_as kindPlace h2 HL.out h1 (by rw [HL.out]; exact hs2)
          rw [e2] at this
          exact this
        have HG : Hid (s3.2 = 0 → R = joinA (acc ++ [(V1, V2)]) (armsR (nVal 3) xs gk s3)) := by
          intro q
          have := joinA_good (k := nVal 3) (xs := xs) (n := gk) (s := s1) (acc := acc) (by rw [e1, e2]; exact q)
          rw [e1] at this
          simp only [e2] at this
          rw [hgd hs0, this]
        have HB : Hid (s3.2 ≠ 0 → R.2 = s3) := by
          intro q
          have := joinA_bad (k := nVal 3) (xs := xs) (n := gk) (s := s1) (acc := acc) (by rw [e1, e2]; exact q)
          rw [e1] at this
          simp only [e2] at this
          rw [hgd hs0, this]
        have HLEN : Hid (acc.length + (gk + 1) = n) := hlen
        have HNEW : Hid (∀ b, (Value.slice ao acc.length cp).ownBlock = some b → w5.heap.size ≤ b) := hnew
        have HAT : Hid (RrAt wr r a L cap s1) := ⟨p, ho, hp⟩
        have HOV := oV
        have hs0b : (((s1.2 : Nat) : Int) == 0) = true := by simp [hs0]
        have hlt : acc.length < n := by omega
        have hHS3 : Hid (s3.2 = 0 → s3.1 ≤ xs.length) := hs3
        obtain ⟨d0, d1, d2, d3, df⟩ := own4 (show Own wr gV #[.int .i64 8, .int .i64 (-9223372036854775808), .int .i64 9223372036854775807, .bool true] 67 from oV)
        generalize ((s1.2 : Nat) : Int) = E1 at *
        have hlw : Hid (Lies wr a xs) := hlr
        have hf5h : Hid (Fr (fun b => b = r) w5 wr) := hf5
        clear hnew hsl hbd hgd hlr hlen HZ ho hp REL e1 e2 hs2 hs3 hs0 oV hf5
        go_wp2_with fail
        refine Calls.mono (C1.out wr HAT.out hlw.out) ?_
        rintro e w6 ⟨rfl, h6, f6⟩
        replace hrow := hrow.fr f6 (fun b q e => by have := HNEW.out b q; have h0 := HF5.out.size; omega)
        replace HOV := HOV.fr f6 hgr
        have hf6 := hf5h.out.trans f6
        clear c0 c1 c2 cf d0 d1 d2 d3 df C1 HAT hlw hf5h f6
        go_wp2_with fail
        refine (rleap_any _).mono ?_
        rintro e w7 ⟨rfl, b7⟩
        replace h6 := h6.below b7
        replace hrow := hrow.fr (F := fun _ => False) (Fr.of b7) (fun _ _ q => q)
        replace HOV := HOV.below b7
        replace hf6 := hf6.trans (Fr.of b7)
        clear b7
        go_wp2_with fail
        refine Calls.mono (C2.out w7 h6 (HLW.out w7 hf6)) ?_
        rintro e w8 ⟨rfl, h8, f8⟩
        replace hrow := hrow.fr f8 (fun b q e => by have := HNEW.out b q; have h0 := HF5.out.size; omega)
        replace HOV := HOV.fr f8 hgr
        replace hf6 := hf6.trans f8
        clear h6 f8 C2
        have oE := Own.new w8 #[.int .i64 V1, .int .i64 V2] 46
        have rowA := hrow.alloc (.cells #[.int .i64 V1, .int .i64 V2] 46)
        have hne : ∀ k, (Value.slice ao acc.length cp).ownBlock = some k → w5.heap.size ≤ k := HNEW.out
        have HA2 : Hid (∀ ao2 cap2 wz, Rw wz 46 2 (.slice ao2 (acc.length + 1) cap2) (acc.length + 1) (armC acc ++ [.int .i64 V1, .int .i64 V2]) → (w8.alloc (.cells #[.int .i64 V1, .int .i64 V2] 46)).grownBy wz (Value.slice ao acc.length cp).ownBlock → ((Value.slice ao2 (acc.length + 1) cap2).ownBlock = (Value.slice ao acc.length cp).ownBlock ∨ (Value.slice ao2 (acc.length + 1) cap2).ownBlock = some (w8.alloc (.cells #[.int .i64 V1, .int .i64 V2] 46)).heap.size) →
            RaRel w5 r a L cap (nVal 3) xs gV n R gk (.slice ao2 (acc.length + 1) cap2) (.int .i64 ((acc ++ [(V1, V2)]).length : Int)) wz) := by
          intro ao2 cap2 wz q1 q2 q3
          have hrne : ∀ {g : Nat} {cs : Array Value} {t : TypeId}, Own w8 g cs t → 46 ≠ t → Own wz g cs t := fun {g cs t} h ht => (h.alloc _).grown q2 (fun e => rowA.ne (h.alloc _) ht e.symm)
          refine ⟨⟨acc ++ [(V1, V2)], s3, by have := HLEN.out; simp; omega, rfl, ?_, ?_, hHS3.out, HB.out, HG.out, ?_⟩, hrne HOV (by decide), ?_⟩
          · rw [armC_append, List.length_append]; exact q1
          · intro b e
            rcases q3 with q3 | q3
            · exact hne b (by rw [← q3]; exact e)
            · rw [q3] at e; cases e; have := hf6.size; simp; omega
          · obtain ⟨p8, o8, hp8⟩ := h8
            exact ⟨p8, hrne o8 (by decide), hp8⟩
          · exact (hf6.alloc _).grown q2 (fun k hk e => by have := hne k e; omega)
        have hsm : acc.length ≤ 65535 := by omega
        clear h8 hf6 hrow HOV
        go_wp2_with (refine wpList_app1 okA (by rfl) (.tmp 52) (.tmp 56) (by rfl) _ acc.length (armC acc) (by rfl) rowA w8.heap.size [.int .i64 V1, .int .i64 V2] (by rfl) oE rfl (by simp [Value.oneCell']) (by omega) ?_; intro ao2 cap2 wz q1 q2 q3)
        have HR := HA2.out ao2 cap2 wz q1 q2 q3
        clear q1 q2 q3 rowA oE HA2
        go_roundg gk
        case measure => omega
        case rel =>
          have e9 : ((acc ++ [(V1, V2)]).length : Int) = (acc.length : Int) + 1 := by simp
          rw [e9] at HR
          exact HR
      · have HZ2 : Hid (RaRet w r a L cap R (.returned (.slice ao acc.length cp)) wr) := HZ.out (.inl hs0)
        have hs0b : (((s1.2 : Nat) : Int) == 0) = false := by simp; omega
        generalize ((s1.2 : Nat) : Int) = E1 at *
        clear hrow hnew hsl hbd hgd oV hf5 hlr hlen REL HF5 HLW HZ ho hp hs0
        generalize (acc.length : Int) = K at *
        go_wp2
        go_ret
        exact HZ2.out
theorem rrarms_as (x : Int) (hx : x = 0 ∨ x = 1 ∨ x = 2 ∨ x = 3) {w : World} {r : Nat} {a : Option Addr} {L cap : Nat} {xs : List Nat} (s : St) (h : RrAt w r a L cap s) (hl : Lies w a xs) (hL : L = xs.length) (hs : s.2 = 0 → s.1 ≤ L) (ha : ∀ b off, a = some ⟨b, off, none⟩ → ¬ b = r) :
    Calls Tryd.prog 43 #[ptr r, .int .i64 x] w (RaRet w r a L cap (armsR (nVal x) xs (nShort.rd xs s).1.toNat (nShort.rd xs s).2)) := by
  rcases hx with rfl | rfl | rfl | rfl
  · exact rrarms_0 s h hl hL hs ha
  · exact rrarms_1 s h hl hL hs ha
  · exact rrarms_2 s h hl hL hs ha
  · exact rrarms_3 s h hl hL hs ha
end Go.Proofs.YtffnlcamobekoaaDoor
