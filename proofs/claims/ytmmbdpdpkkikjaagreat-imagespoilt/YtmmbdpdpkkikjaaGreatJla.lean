/-
  THE READER OF AN IMAGE: faults, numbers, counts.
  THE READER OF AN IMAGE: counts, bytes, texts, codes, kinds.
  SEVERAL THINGS READ ONE BEHIND THE OTHER: how they lie.
-/
import Derived.Test.YtmmbdpdpkkikjaaGreatJw
import Derived.Test.YtmmbdpdpkkikjaaGreatJv
import Derived.Test.YtmmbdpdpkkikjaaGreatWi
import Derived.WalkLawsBesides
import Derived.Test.YtmmbdpdpkkikjaaGreatJml
import Derived.Test.YtmmbdpdpkkikjaaGreatMl2
namespace Go.Proofs.YtmmbdpdpkkikjaaGreat
open Go.RowKit
set_option linter.unusedVariables false

/-- A reader in memory: its bytes, where it is. -/
structure RdAt (w : World) (r : Nat) (a : Option Addr) (c : Nat) (xs : List Nat) (p : Nat) : Prop where
  own : Own w r #[.slice a xs.length c, .int .i64 (p : Int)] 69
  lies : Lies w a xs
  le : p ≤ xs.length
  mx : xs.length ≤ 2097152
  cap : xs.length ≤ c
  cm : c ≤ 9223372036854775807
  at_ : ∃ b off, a = some ⟨b, off, none⟩
  ne : ∀ b off, a = some ⟨b, off, none⟩ → xs ≠ [] → ¬ b = r
/-- What a reader's call keeps. -/
abbrev RFr (r : Nat) (w w' : World) : Prop := Fr (fun b => b = r) w w'
theorem RdAt.lies_fr {w w' : World} {r : Nat} {a : Option Addr} {c : Nat} {xs : List Nat} {p : Nat} (h : RdAt w r a c xs p) (hf : RFr r w w') : Lies w' a xs := by
  by_cases h0 : xs = []
  · exact ⟨h.lies.1, h.lies.2.1, .inl h0⟩
  · exact h.lies.fr hf (fun b off e => h.ne b off e h0)
theorem RdAt.to {w w' : World} {r : Nat} {a : Option Addr} {c : Nat} {xs : List Nat} {p q : Nat} (h : RdAt w r a c xs p) (hf : RFr r w w') (ho : Own w' r #[.slice a xs.length c, .int .i64 (q : Int)] 69) (hq : q ≤ xs.length) : RdAt w' r a c xs q :=
  ⟨ho, h.lies_fr hf, hq, h.mx, h.cap, h.cm, h.at_, h.ne⟩
theorem RdAt.below {w w' : World} {r : Nat} {a : Option Addr} {c : Nat} {xs : List Nat} {p : Nat} (h : RdAt w r a c xs p) (hb : Below w.heap.size w w') : RdAt w' r a c xs p :=
  ⟨h.own.below hb, h.lies.below hb, h.le, h.mx, h.cap, h.cm, h.at_, h.ne⟩
abbrev fltV (at_ er : Int) : List PanicEntry := [{ v := .iface 66 (.agg #[.int .i64 at_, .int .i64 er]), recovered := false }]
/-- What a reader's call leaves: a fault, or what is read, and the place behind it. -/
def RRet {α : Type} (r : Nat) (a : Option Addr) (c : Nat) (xs : List Nat) (V : World → Nat → Value → α → Prop) (R : Rs α) (w : World) (e : Ending) (w' : World) : Prop := match R with
  | .inl x => e = .panicked (fltV (x.1 : Int) (x.2 : Int)) ∧ RFr r w w'
  | .inr y => (∃ v, e = .returned v ∧ V w' w.heap.size v y.1) ∧ RdAt w' r a c xs y.2 ∧ RFr r w w'
def vNum : World → Nat → Value → Int → Prop := fun _ _ v x => v = .int .i64 x
def vCnt : World → Nat → Value → Nat → Prop := fun _ _ v x => v = .int .i64 (x : Int)
def vTxt : World → Nat → Value → ByteArray → Prop := fun _ _ v x => v = .string x
theorem giveUp_as (r : Nat) (at_ er : Int) (w : World) : Calls Tryz.prog 57 #[ptr r, .int .i64 at_, .int .i64 er] w fun e w' => e = .panicked (fltV at_ er) ∧ w = w' := by
  go_enter Tryz.func57, Tryz.ntmps57
  go_wp2
  exact ⟨rfl, rfl, rfl⟩
theorem giveUpShort_of {w : World} {r : Nat} {a : Option Addr} {c L : Nat} {p : Int} (h : Own w r #[.slice a L c, .int .i64 p] 69) : Calls Tryz.prog 55 #[ptr r] w fun e w' => e = .panicked (fltV (L : Int) 10) ∧ w = w' := by
  obtain ⟨x0, x1, xf⟩ := own2 h
  have hC := giveUp_as r (L : Int) 10 w
  clear h
  go_enter Tryz.func55, Tryz.ntmps55
  go_wp2_with fail
  refine hC.mono ?_
  rintro e w1 ⟨rfl, rfl⟩
  go_wp2
  exact ⟨rfl, rfl, rfl⟩
theorem giveUpShort_as {w : World} {r : Nat} {a : Option Addr} {c : Nat} {xs : List Nat} {p : Nat} (h : RdAt w r a c xs p) : Calls Tryz.prog 55 #[ptr r] w fun e w' => e = .panicked (fltV (xs.length : Int) 10) ∧ w = w' := giveUpShort_of h.own
set_option maxHeartbeats 2000000 in
set_option maxRecDepth 100000 in
theorem rnumber_as {w : World} {r : Nat} {a : Option Addr} {c : Nat} {xs : List Nat} {p : Nat} (h : RdAt w r a c xs p) : Calls Tryz.prog 94 #[ptr r] w (RRet r a c xs vNum (rNum xs p) w) := by
  obtain ⟨R, HR⟩ : ∃ R, Hid (RRet r a c xs vNum (rNum xs p) w = R) := ⟨_, rfl⟩
  rw [HR.out]
  have hG := Q01.get_any a xs.length c xs (p : Int) w.drew (h.lies_fr (Fr.refl _ w).drew) rfl
  have HD : Hid (RdAt w.drew r a c xs p) := h.to (Fr.refl _ w).drew h.own.drew h.le
  have HFD : Hid (RFr r w w.drew) := (Fr.refl _ w).drew
  obtain ⟨n, hn⟩ : ∃ n, Q01.gN xs (p : Int) = n := ⟨_, rfl⟩
  obtain ⟨q, hq⟩ : ∃ q, Q01.gP xs (p : Int) = q := ⟨_, rfl⟩
  obtain ⟨er, her⟩ : ∃ er, Q01.gE xs (p : Int) = er := ⟨_, rfl⟩
  have hlt : n < 18446744073709551616 := by rw [← hn]; exact Q01.gN_lt xs _ h.lies.1
  have HS : Hid (((Q01.getS 0 0 (xs.drop p)).1 = n) ∧ ((((Q01.getS 0 0 (xs.drop p)).2.2 : Nat) : Int) = er) ∧ (er = 0 → q = ((p + (Q01.getS 0 0 (xs.drop p)).2.1 : Nat) : Int)) ∧ ((Q01.getS 0 0 (xs.drop p)).2.2 = 0 → p + (Q01.getS 0 0 (xs.drop p)).2.1 ≤ xs.length)) := by
    have hp : 0 ≤ (p : Int) ∧ (p : Int) ≤ xs.length := ⟨by omega, by have := h.le; omega⟩
    unfold Q01.gN at hn
    unfold Q01.gP at hq
    unfold Q01.gE at her
    rw [if_pos hp, Int.toNat_natCast] at hn hq her
    refine ⟨hn, her, fun h0 => ?_, fun h0 => ?_⟩
    · rw [← hq]
      unfold Q01.getP
      rw [if_pos (by unfold Q01.getE at her; omega)]
    · rcases Q01.getS_once (xs.drop p) 0 0 (by omega) (fun c hc => h.lies.1 c (List.mem_of_mem_drop hc)) with ⟨h4, _⟩ | ⟨_, m, h4, h5, h6, h7, _⟩
      · exact absurd h0 h4
      · rw [List.length_drop] at h6; have := h.le; omega
  rw [hn, hq, her] at hG
  obtain ⟨x0, x1, xf⟩ := own2 h.own
  clear hn hq her h
  go_enter Tryz.func94, Tryz.ntmps94
  go_upto_region 1 with fail
  go_region_held3 (fun w' => w'.cell? ⟨r, 0, none⟩ = some (.slice a xs.length c) ∧ w'.cell? ⟨r, 1, none⟩ = some (.int .i64 (p : Int))) (go_keep)
    (first
      | (go_at_call 127; refine hG.mono ?_; rintro en W2 ⟨rfl, rfl⟩))
  have hD := HD.out
  have hFD := HFD.out
  clear HD HFD hG x0 x1 xf
  generalize w.drew = W at *
  obtain ⟨x0, x1, xf⟩ := own2 hD.own
  by_cases h10 : er = 10
  · have e10 : (Q01.getS 0 0 (xs.drop p)).2.2 = 10 := by have := HS.out.2.1; omega
    have hC := giveUpShort_as hD
    have HZ : Hid (R (.panicked (fltV (xs.length : Int) 10)) W) := by
      rw [Hid, ← HR.out]; unfold rNum; rw [if_pos e10]; exact ⟨rfl, hFD⟩
    subst h10
    clear HS hD hFD e10
    go_wp2_with fail
    refine hC.mono ?_
    rintro e w1 ⟨rfl, rfl⟩
    go_wp2
    exact ⟨rfl, HZ.out⟩
  · have q10 : (er == 10) = false := by simp [h10]
    by_cases h0 : er = 0
    · have e0 : (Q01.getS 0 0 (xs.drop p)).2.2 = 0 := by have := HS.out.2.1; omega
      by_cases hbig : 2147483647 < n
      · have hC := giveUp_as r (p : Int) 130 W
        have HZ : Hid (R (.panicked (fltV (p : Int) 130)) W) := by
          rw [Hid, ← HR.out]; unfold rNum; rw [if_neg (by omega), if_neg (by omega), if_pos (by rw [HS.out.1]; exact hbig)]; exact ⟨rfl, hFD⟩
        have hb2 : (2147483647 : Int) < (n : Int) := by omega
        subst h0
        clear HS hD hFD e0 hbig q10 h10 hlt
        go_wp2_with fail
        refine hC.mono ?_
        rintro e w1 ⟨rfl, rfl⟩
        go_wp2
        exact ⟨rfl, HZ.out⟩
      · have hb2 : (n : Int) ≤ 2147483647 := by omega
        have hQ := HS.out.2.2.1 h0
        have hle := HS.out.2.2.2 e0
        obtain ⟨k, hk⟩ : ∃ k, p + (Q01.getS 0 0 (xs.drop p)).2.1 = k := ⟨_, rfl⟩
        rw [hk] at hQ hle
        subst hQ
        have o2 : Own (W.setCell ⟨r, 1, none⟩ (.int .i64 (k : Int))) r #[.slice a xs.length c, .int .i64 (k : Int)] 69 := by simpa using hD.own.set 1 (.int .i64 (k : Int))
        have f2 : RFr r w (W.setCell ⟨r, 1, none⟩ (.int .i64 (k : Int))) := hFD.set (g := r) (.inr rfl) 1 _
        have hD2 := hD.to ((Fr.refl (fun b => b = r) W).set (g := r) (.inr rfl) 1 (.int .i64 (k : Int))) o2 hle
        have HZ : Hid (R (.returned (.int .i64 (n : Int))) (W.setCell ⟨r, 1, none⟩ (.int .i64 (k : Int)))) := by
          rw [Hid, ← HR.out]; unfold rNum; rw [if_neg (by omega), if_neg (by omega), if_neg (by rw [HS.out.1]; exact hbig), HS.out.1, hk]; exact ⟨⟨_, rfl, rfl⟩, hD2, f2⟩
        subst h0
        clear HS hD hFD e0 hbig q10 h10 hlt o2 f2 hD2 hk hle
        go_wp2
        exact HZ.out
    · have q0 : (er == 0) = false := by simp [h0]
      obtain ⟨en, hen⟩ : ∃ en, (Q01.getS 0 0 (xs.drop p)).2.2 = en := ⟨_, rfl⟩
      have hee : er = (en : Int) := by rw [← HS.out.2.1, hen]
      have hC := giveUp_as r (p : Int) er W
      have HZ : Hid (R (.panicked (fltV (p : Int) er)) W) := by
        rw [Hid, ← HR.out, hee]; unfold rNum; rw [if_neg (by omega), if_pos (by omega), hen]; exact ⟨rfl, hFD⟩
      clear HS hD hFD hen hee hlt h0 h10
      go_wp2_with fail
      refine hC.mono ?_
      rintro e w1 ⟨rfl, rfl⟩
      go_wp2
      exact ⟨rfl, HZ.out⟩
end Go.Proofs.YtmmbdpdpkkikjaaGreat
namespace Go.Proofs.YtmmbdpdpkkikjaaGreat
open Go.RowKit
set_option linter.unusedVariables false

theorem rNum_in {xs : List Nat} {p : Nat} {n : Int} {q : Nat} (h : rNum xs p = .inr (n, q)) : 0 ≤ n ∧ n ≤ 2147483647 := by
  unfold rNum at h
  split at h
  · cases h
  · split at h
    · cases h
    · split at h
      · cases h
      · cases h; omega
set_option maxHeartbeats 2000000 in
set_option maxRecDepth 100000 in
theorem rcount_as {w : World} {r : Nat} {a : Option Addr} {c : Nat} {xs : List Nat} {p : Nat} (h : RdAt w r a c xs p) (lim : Nat) (hlim : lim ≤ 65536) : Calls Tryz.prog 59 #[ptr r, .int .i64 (lim : Int)] w (RRet r a c xs vCnt (rCount lim xs p) w) := by
  obtain ⟨R, HR⟩ : ∃ R, Hid (RRet r a c xs vCnt (rCount lim xs p) w = R) := ⟨_, rfl⟩
  rw [HR.out]
  have hN := rnumber_as h
  obtain ⟨x0, x1, xf⟩ := own2 h.own
  obtain ⟨LM, hLM⟩ : ∃ LM : Int, (lim : Int) = LM := ⟨_, rfl⟩
  have HLM : Hid ((lim : Int) = LM) := hLM
  rw [hLM]
  clear h hLM hlim
  go_enter Tryz.func59, Tryz.ntmps59
  cases hr : rNum xs p with
  | inl x =>
    rw [hr] at hN
    have HZ : Hid (∀ w', RFr r w w' → R (.panicked (fltV (x.1 : Int) (x.2 : Int))) w') := fun w' hf => by
      rw [← HR.out]; unfold rCount; rw [hr]; exact ⟨rfl, hf⟩
    clear hr
    go_wp2_with fail
    refine hN.mono ?_
    rintro e w1 ⟨rfl, hf⟩
    go_wp2
    exact ⟨rfl, HZ.out _ hf⟩
  | inr y =>
    obtain ⟨n, q⟩ := y
    rw [hr] at hN
    have hin := rNum_in hr
    have HRC : Hid (rCount lim xs p = if LM < n then .inl (p, 3) else .inr (n.toNat, q)) := by
      unfold Hid rCount; rw [hr, Rs.bind_inr, HLM.out]
    clear hr
    go_wp2_with fail
    refine hN.mono ?_
    rintro e w1 ⟨⟨v, rfl, hv⟩, hd, hf⟩
    obtain rfl : v = .int .i64 n := hv
    by_cases hb : LM < n
    · have hC := giveUp_as r (p : Int) 3 w1
      have HZ : Hid (R (.panicked (fltV (p : Int) 3)) w1) := by
        rw [Hid, ← HR.out, HRC.out, if_pos hb]; exact ⟨rfl, hf⟩
      clear hN hd hf
      go_wp2_with fail
      refine hC.mono ?_
      rintro e w2 ⟨rfl, rfl⟩
      go_wp2
      exact ⟨rfl, HZ.out⟩
    · have HZ : Hid (R (.returned (.int .i64 n)) w1) := by
        rw [Hid, ← HR.out, HRC.out, if_neg hb]
        exact ⟨⟨_, rfl, by show _ = Value.int .i64 ((n.toNat : Nat) : Int); rw [Int.toNat_of_nonneg hin.1]⟩, hd, hf⟩
      clear hN hd hf
      go_wp2
      exact HZ.out
theorem rCount_in {lim : Nat} {xs : List Nat} {p n q : Nat} (h : rCount lim xs p = .inr (n, q)) : n ≤ lim := by
  unfold rCount at h
  cases hr : rNum xs p with
  | inl x => rw [hr] at h; cases h
  | inr y =>
    obtain ⟨m, k⟩ := y
    have hin := rNum_in hr
    rw [hr, Rs.bind_inr] at h
    split at h
    · cases h
    · cases h; omega
def vByt : World → Nat → Value → List Nat → Prop := fun w _ v l => ∃ a c, v = .slice a l.length c ∧ Lies w a l ∧ (a = none → c = 0) ∧ c ≤ 9223372036854775807
set_option maxHeartbeats 2000000 in
set_option maxRecDepth 100000 in
theorem rbytes_as {w : World} {r : Nat} {a : Option Addr} {c : Nat} {xs : List Nat} {p : Nat} (h : RdAt w r a c xs p) (n : Nat) (hn : n ≤ 65536) : Calls Tryz.prog 98 #[ptr r, .int .i64 (n : Int)] w (RRet r a c xs vByt (rBytes n xs p) w) := by
  obtain ⟨R, HR⟩ : ∃ R, Hid (RRet r a c xs vByt (rBytes n xs p) w = R) := ⟨_, rfl⟩
  rw [HR.out]
  obtain ⟨b, off, rfl⟩ := h.at_
  have hle := h.le
  have hcap := h.cap
  have hcm := h.cm
  have hmx := h.mx
  obtain ⟨x0, x1, xf⟩ := own2 h.own
  by_cases hs : xs.length < p + n
  · have hdec : decide (((xs.length : Nat) : Int) - (p : Int) < (n : Int)) = true := by simp; omega
    have HZ : Hid (∀ w', RFr r w w' → R (.panicked (fltV (xs.length : Int) 10)) w') := fun w' hf => by
      rw [← HR.out]; unfold rBytes; rw [if_pos hs]; exact ⟨rfl, hf⟩
    have hC : ∀ k, Calls Tryz.prog 55 #[ptr r] (w.drewN k) fun e w' => e = .panicked (fltV (xs.length : Int) 10) ∧ w.drewN k = w' := fun k => giveUpShort_of (h.own.drewN k)
    have HF : Hid (∀ k, RFr r w (w.drewN k)) := fun k => (Fr.refl _ w).drewN k
    have hsI : (xs.length : Int) - (p : Int) < (n : Int) := by omega
    clear h hs hn
    go_enter Tryz.func98, Tryz.ntmps98
    go_upto_region 1 with fail
    go_quiet (fail)
    go_wp2_with fail
    refine (hC _).mono ?_
    rintro e w1 ⟨rfl, rfl⟩
    clear hC
    go_wp2
    exact ⟨rfl, HZ.out _ (HF.out _)⟩
  · have hdec : decide (((xs.length : Nat) : Int) - (p : Int) < (n : Int)) = false := by simp; omega
    have hsI : (n : Int) ≤ (xs.length : Int) - (p : Int) := by omega
    have hpn : p + n ≤ c := by omega
    have HSP : Hid (rBytes n xs p = .inr ((xs.drop p).take n, p + n)) := by unfold Hid rBytes; rw [if_neg hs]
    have hlen : ((xs.drop p).take n).length = n := by rw [List.length_take, List.length_drop]; omega
    have hl2 : ∀ W, RFr r w W → Lies W (some ⟨b, off + p, none⟩) ((xs.drop p).take n) := fun W hf => (h.lies_fr hf).part p n (by omega)
    have hl3 : n = 0 → ∀ W a', Lies W a' ((xs.drop p).take n) := fun h0 W a' => by subst h0; exact ⟨by simp, by simp, .inl (by simp)⟩
    have HF : Hid (∀ k j, RFr r w (((w.drewN k).setCell ⟨r, 1, none⟩ (.int .i64 ((p : Int) + (n : Int)))).drewN j)) := fun k j => (((Fr.refl (fun b => b = r) w).drewN k).set (g := r) (.inr rfl) 1 _).drewN j
    have HD : Hid (∀ k j, RdAt (((w.drewN k).setCell ⟨r, 1, none⟩ (.int .i64 ((p : Int) + (n : Int)))).drewN j) r (some ⟨b, off, none⟩) c xs (p + n)) := fun k j => h.to (HF.out k j) (by
      have o2 := (h.own.drewN k).set 1 (.int .i64 ((p : Int) + (n : Int)))
      have o3 : Own ((w.drewN k).setCell ⟨r, 1, none⟩ (.int .i64 ((p : Int) + (n : Int)))) r #[.slice (some ⟨b, off, none⟩) xs.length c, .int .i64 (((p + n : Nat) : Int))] 69 := by simpa using o2
      exact o3.drewN j) (by omega)
    have HZ : Hid (∀ k j a' c', (a' = some ⟨b, off + p, none⟩ ∨ n = 0) → (a' = none → c' = 0) → c' ≤ 9223372036854775807 → R (.returned (.slice a' n c')) (((w.drewN k).setCell ⟨r, 1, none⟩ (.int .i64 ((p : Int) + (n : Int)))).drewN j)) := fun k j a' c' ha hc hcm => by
      rw [← HR.out, HSP.out]
      refine ⟨⟨_, rfl, a', c', by rw [hlen], ?_, hc, hcm⟩, HD.out k j, HF.out k j⟩
      rcases ha with rfl | h0
      · exact hl2 _ (HF.out k j)
      · exact hl3 h0 _ a'
    have hpp : ((p : Int) + (n : Int)).toNat = p + n := by omega
    have hlN : (xs.length : Int) ≤ 2097152 := by omega
    have HL : Hid (xs.length ≤ c) := hcap
    clear h hs hl2 hl3 hlen hmx hcap HF HD HSP
    generalize xs.length = L at *
    go_enter Tryz.func98, Tryz.ntmps98
    go_upto_region 1 with fail
    go_quiet (fail)
    go_upto_region 5 with fail
    have s1 : (0 : Int) ≤ (p : Int) := by omega
    have s2 : (p : Int) ≤ (p : Int) + (n : Int) := by omega
    have s3 : (p : Int) + (n : Int) ≤ (c : Int) := by omega
    have hpt : ((p : Int)).toNat = p := by omega
    by_cases hcp : c = p
    · subst hcp
      obtain rfl : n = 0 := by omega
      go_quiet (fail)
      clear x0 x1 xf
      go_wp2
      exact HZ.out _ _ _ _ (by simp) (fun h => nomatch h) (by omega)
    · have hcp' : ¬ c = (p : Int).toNat := by omega
      go_quiet (fail)
      clear x0 x1 xf
      go_wp2
      exact HZ.out _ _ _ _ (.inl rfl) (fun h => nomatch h) (by omega)
set_option maxHeartbeats 2000000 in
set_option maxRecDepth 100000 in
theorem rtext_as {w : World} {r : Nat} {a : Option Addr} {c : Nat} {xs : List Nat} {p : Nat} (h : RdAt w r a c xs p) : Calls Tryz.prog 62 #[ptr r] w (RRet r a c xs vTxt (rText xs p) w) := by
  obtain ⟨R, HR⟩ : ∃ R, Hid (RRet r a c xs vTxt (rText xs p) w = R) := ⟨_, rfl⟩
  rw [HR.out]
  have hN := rcount_as h 65536 (by omega)
  cases hr : rCount 65536 xs p with
  | inl x =>
    rw [hr] at hN
    have HZ : Hid (∀ w', RFr r w w' → R (.panicked (fltV (x.1 : Int) (x.2 : Int))) w') := fun w' hf => by
      rw [← HR.out]; unfold rText; rw [hr]; exact ⟨rfl, hf⟩
    clear hr h
    go_enter Tryz.func62, Tryz.ntmps62
    go_wp2_with fail
    refine hN.mono ?_
    rintro e w1 ⟨rfl, hf⟩
    go_wp2
    exact ⟨rfl, HZ.out _ hf⟩
  | inr y =>
    obtain ⟨n, q⟩ := y
    rw [hr] at hN
    have HRC : Hid (rText xs p = (rBytes n xs q).bind fun b r => .inr (strN b, r)) := by
      unfold Hid rText; rw [hr, Rs.bind_inr]
    have hn : n ≤ 65536 := rCount_in hr
    clear hr h
    go_enter Tryz.func62, Tryz.ntmps62
    go_wp2_with fail
    refine hN.mono ?_
    rintro e w1 ⟨⟨v, rfl, hv⟩, hd, hf⟩
    obtain rfl : v = .int .i64 (n : Int) := hv
    have hB := rbytes_as hd n hn
    cases hb : rBytes n xs q with
    | inl x =>
      rw [hb] at hB
      have HZ : Hid (∀ w', RFr r w1 w' → R (.panicked (fltV (x.1 : Int) (x.2 : Int))) w') := fun w' hf2 => by
        rw [← HR.out, HRC.out, hb]; exact ⟨rfl, hf.trans hf2⟩
      clear hb hd hN
      go_wp2_with fail
      refine hB.mono ?_
      rintro e w2 ⟨rfl, hf2⟩
      go_wp2
      exact ⟨rfl, HZ.out _ hf2⟩
    | inr y =>
      obtain ⟨l, q2⟩ := y
      rw [hb] at hB
      have HZ : Hid (∀ w', RdAt w' r a c xs q2 → RFr r w1 w' → R (.returned (.string (strN l))) w') := fun w' hd2 hf2 => by
        rw [← HR.out, HRC.out, hb]; exact ⟨⟨_, rfl, rfl⟩, hd2, hf.trans hf2⟩
      clear hb hd hN
      go_wp2_with fail
      refine hB.mono ?_
      rintro e w2 ⟨⟨v, rfl, a2, c2, hv, hl2, hc2, hcm2⟩, hd2, hf2⟩
      subst hv
      have hcv : (convert 29 9 (.slice a2 l.length c2)).run Tryz.prog w2 = .ok (.string (strN l)) w2 := conv_any hl2 rfl
      have hZ := HZ.out _ hd2 hf2
      clear hl2 hd2 hf2 HZ hB HRC HR hf
      generalize strN l = S at *
      dsimp only at hcv ⊢
      generalize l.length = L at *
      go_wp2_with (simp only [execOp, hcv])
      exact hZ
end Go.Proofs.YtmmbdpdpkkikjaaGreat
namespace Go.Proofs.YtmmbdpdpkkikjaaGreat
open Go.RowKit
set_option linter.unusedVariables false

/-- A kind of thing that is read: its cells, what it is, what lies beside it. -/
structure Kd (μ α : Type) where
  e : TypeId
  sz : Nat
  cf : μ → List Value
  vf : μ → Value
  sp : μ → α
  ok : World → Nat → μ → Prop
def Kd.rows {μ α : Type} (K : Kd μ α) (ms : List μ) : List Value := (ms.map K.cf).flatten
structure Kd.Good {μ α : Type} (K : Kd μ α) : Prop where
  fr : ∀ (r : Nat) (w w' : World) (B : Nat) (m : μ), K.ok w B m → r < B → RFr r w w' → K.ok w' B m
  grow : ∀ (w w' : World) (B : Nat) (m : μ) (v : Value) (n : Nat) (ys : List Value), K.ok w B m → Rw w K.e K.sz v n ys → w.grownBy w' v.ownBlock → K.ok w' B m
  mono : ∀ (w : World) (B B' : Nat) (m : μ), K.ok w B' m → B ≤ B' → K.ok w B m
def vEl {μ α : Type} (K : Kd μ α) : World → Nat → Value → α → Prop := fun w B v x => ∃ m, K.sp m = x ∧ v = K.vf m ∧ K.ok w B m
def vSev {μ α : Type} (K : Kd μ α) : World → Nat → Value → List α → Prop := fun w B v l => ∃ ms : List μ, ms.map K.sp = l ∧ Rw w K.e K.sz v ms.length (K.rows ms) ∧ (∀ b, v.ownBlock = some b → B ≤ b) ∧ ∀ m ∈ ms, K.ok w B m
structure SevM {μ α : Type} (K : Kd μ α) (B : Nat) (W : World) (ms : List μ) (v : Value) : Prop where
  row : Rw W K.e K.sz v ms.length (K.rows ms)
  new : ∀ b, v.ownBlock = some b → B ≤ b
  each : ∀ m ∈ ms, K.ok W B m
theorem SevM.nil {μ α : Type} (K : Kd μ α) (B : Nat) (W : World) : SevM K B W [] (.slice none 0 0) :=
  ⟨World.ownsRow_nil _ _ _ _, (fun b h => by cases h), (fun m h => by cases h)⟩
theorem SevM.fr {μ α : Type} {K : Kd μ α} (G : K.Good) {B r : Nat} {W W' : World} {ms : List μ} {v : Value} (h : SevM K B W ms v) (hr : r < B) (hf : RFr r W W') : SevM K B W' ms v :=
  ⟨h.row.fr hf (fun k e z => by have := h.new k e; omega), h.new, fun m hm => G.fr r W W' B m (h.each m hm) hr hf⟩
theorem SevM.app {μ α : Type} {K : Kd μ α} (G : K.Good) {B : Nat} {W W' : World} {ms : List μ} {v v' : Value} {m : μ} (h : SevM K B W ms v) (hB : B ≤ W.heap.size) (hm : K.ok W B m) (q1 : Rw W' K.e K.sz v' (ms.length + 1) (K.rows ms ++ K.cf m)) (q2 : W.grownBy W' v.ownBlock) (q3 : v'.ownBlock = v.ownBlock ∨ v'.ownBlock = some W.heap.size) : SevM K B W' (ms ++ [m]) v' := by
  refine ⟨?_, fun b e => ?_, fun x hx => ?_⟩
  · have e1 : K.rows (ms ++ [m]) = K.rows ms ++ K.cf m := by unfold Kd.rows; simp
    rw [e1, List.length_append, List.length_singleton]; exact q1
  · rcases q3 with q3 | q3
    · exact h.new b (by rw [← q3]; exact e)
    · rw [q3] at e; cases e; exact hB
  · rcases List.mem_append.1 hx with hx | hx
    · exact G.grow W W' B x v _ _ (h.each x hx) h.row q2
    · obtain rfl := List.mem_singleton.1 hx
      exact G.grow W W' B x v _ _ hm h.row q2
theorem SevM.out {μ α : Type} {K : Kd μ α} {B : Nat} {W : World} {ms : List μ} {v : Value} (h : SevM K B W ms v) {l : List α} (e : ms.map K.sp = l) : vSev K W B v l := ⟨ms, e, h.row, h.new, h.each⟩
theorem vSev.fr {μ α : Type} {K : Kd μ α} (G : K.Good) {B r : Nat} {W W' : World} {l : List α} {v : Value} (h : vSev K W B v l) (hr : r < B) (hf : RFr r W W') : vSev K W' B v l := by
  obtain ⟨ms, e, h1, h2, h3⟩ := h
  exact (SevM.fr G ⟨h1, h2, h3⟩ hr hf).out e
theorem vSev.mono {μ α : Type} {K : Kd μ α} (G : K.Good) {B B' : Nat} {W : World} {l : List α} {v : Value} (h : vSev K W B' v l) (hb : B ≤ B') : vSev K W B v l := by
  obtain ⟨ms, e, h1, h2, h3⟩ := h
  exact ⟨ms, e, h1, fun b q => Nat.le_trans hb (h2 b q), fun m hm => G.mono W B B' m (h3 m hm) hb⟩
theorem vSev.shape {μ α : Type} {K : Kd μ α} {B : Nat} {W : World} {l : List α} {v : Value} (h : vSev K W B v l) : ∃ a c, v = .slice a l.length c := by
  obtain ⟨ms, e, h1, h2, h3⟩ := h
  obtain ⟨a, c, e2, -⟩ := h1.shape
  exact ⟨a, c, by rw [e2, ← e, List.length_map]⟩
/-! ### The mathematics of several -/
def SevS {α : Type} (F : Nat → Rs α) (n p : Nat) (ls : List α) (g q : Nat) : Prop := rSev F n p = (rSev F g q).bind fun l s => .inr (ls ++ l, s)
theorem SevS.start {α : Type} (F : Nat → Rs α) (n p : Nat) : SevS F n p [] n p := by
  unfold SevS
  cases rSev F n p with
  | inl x => rfl
  | inr y => rfl
theorem SevS.fault {α : Type} {F : Nat → Rs α} {n p : Nat} {ls : List α} {g q : Nat} (h : SevS F n p ls (g + 1) q) {x : Nat × Nat} (e : F q = .inl x) : rSev F n p = .inl x := by
  rw [h]; simp only [rSev, e]; rfl
theorem SevS.next {α : Type} {F : Nat → Rs α} {n p : Nat} {ls : List α} {g q : Nat} (h : SevS F n p ls (g + 1) q) {a : α} {s : Nat} (e : F q = .inr (a, s)) : SevS F n p (ls ++ [a]) g s := by
  unfold SevS at h ⊢
  rw [h]; simp only [rSev, e, Rs.bind_inr]
  cases rSev F g s with
  | inl x => rfl
  | inr y => simp [Rs.bind]
theorem SevS.done {α : Type} {F : Nat → Rs α} {n p : Nat} {ls : List α} {q : Nat} (h : SevS F n p ls 0 q) : rSev F n p = .inr (ls, q) := by
  unfold SevS at h
  rw [h]; simp [rSev, Rs.bind]
/-! ### The kinds -/
def kInt : Kd Int Int := ⟨3, 1, fun x => [.int .i64 x], fun x => .int .i64 x, id, fun _ _ _ => True⟩
def kTxt : Kd ByteArray ByteArray := ⟨9, 1, fun x => [.string x], fun x => .string x, id, fun _ _ _ => True⟩
def kFl : Kd Fl Fl := ⟨51, 2, flL, fun x => .agg #[.string x.name, .int .i64 x.typ], id, fun _ _ _ => True⟩
def tyN (w : World) (B : Nat) (x : TyP) : Prop := Rw w 51 2 (.slice x.fa x.t.fields.length x.fc) x.t.fields.length (flC x.t.fields) ∧ ∀ b, (Value.slice x.fa x.t.fields.length x.fc).ownBlock = some b → B ≤ b
def kTy : Kd TyP Ty := ⟨49, 5, tyL, fun x => .agg (tyL x).toArray, TyP.t, tyN⟩
def roN (w : World) (B : Nat) (x : RoP) : Prop :=
  (Rw w 3 1 (.slice x.pa x.r.params.length x.pc) x.r.params.length (intV x.r.params) ∧ ∀ b, (Value.slice x.pa x.r.params.length x.pc).ownBlock = some b → B ≤ b) ∧
  (Rw w 3 1 (.slice x.ra x.r.results.length x.rc) x.r.results.length (intV x.r.results) ∧ ∀ b, (Value.slice x.ra x.r.results.length x.rc).ownBlock = some b → B ≤ b) ∧
  (Rw w 5 1 (.slice x.ca x.r.code.length x.cc) x.r.code.length (nums x.r.code) ∧ ∀ b, (Value.slice x.ca x.r.code.length x.cc).ownBlock = some b → B ≤ b)
def kRo : Kd RoP Ro := ⟨55, 6, roL, fun x => .agg (roL x).toArray, RoP.r, roN⟩
theorem kInt_good : kInt.Good := ⟨fun _ _ _ _ _ _ _ _ => trivial, fun _ _ _ _ _ _ _ _ _ _ => trivial, fun _ _ _ _ _ _ => trivial⟩
theorem kTxt_good : kTxt.Good := ⟨fun _ _ _ _ _ _ _ _ => trivial, fun _ _ _ _ _ _ _ _ _ _ => trivial, fun _ _ _ _ _ _ => trivial⟩
theorem kFl_good : kFl.Good := ⟨fun _ _ _ _ _ _ _ _ => trivial, fun _ _ _ _ _ _ _ _ _ _ => trivial, fun _ _ _ _ _ _ => trivial⟩
theorem rwn_fr {e : TypeId} {sz r : Nat} {w w' : World} {B n : Nat} {v : Value} {xs : List Value} (h : Rw w e sz v n xs ∧ ∀ b, v.ownBlock = some b → B ≤ b) (hr : r < B) (hf : RFr r w w') : Rw w' e sz v n xs ∧ ∀ b, v.ownBlock = some b → B ≤ b :=
  ⟨h.1.fr hf (fun k e z => by have := h.2 k e; omega), h.2⟩
theorem rwn_grow {e e' : TypeId} {sz sz' : Nat} {w w' : World} {B n n' : Nat} {v v' : Value} {xs ys : List Value} (h : Rw w e sz v n xs ∧ ∀ b, v.ownBlock = some b → B ≤ b) (h' : Rw w e' sz' v' n' ys) (he : e ≠ e') (hg : w.grownBy w' v'.ownBlock) : Rw w' e sz v n xs ∧ ∀ b, v.ownBlock = some b → B ≤ b :=
  ⟨h.1.grown hg (fun k e z => h.1.ne2 h' he k e z.symm), h.2⟩
theorem rwn_mono {e : TypeId} {sz : Nat} {w : World} {B B' n : Nat} {v : Value} {xs : List Value} (h : Rw w e sz v n xs ∧ ∀ b, v.ownBlock = some b → B' ≤ b) (hb : B ≤ B') : Rw w e sz v n xs ∧ ∀ b, v.ownBlock = some b → B ≤ b := ⟨h.1, fun b e => Nat.le_trans hb (h.2 b e)⟩
theorem kTy_good : kTy.Good := ⟨fun r w w' B m h hr hf => rwn_fr h hr hf, fun w w' B m v n ys h h' hg => rwn_grow h h' (by decide) hg, fun w B B' m h hb => rwn_mono h hb⟩
theorem kRo_good : kRo.Good := ⟨fun r w w' B m h hr hf => ⟨rwn_fr h.1 hr hf, rwn_fr h.2.1 hr hf, rwn_fr h.2.2 hr hf⟩, fun w w' B m v n ys h h' hg => ⟨rwn_grow h.1 h' (by decide) hg, rwn_grow h.2.1 h' (by decide) hg, rwn_grow h.2.2 h' (by decide) hg⟩, fun w B B' m h hb => ⟨rwn_mono h.1 hb, rwn_mono h.2.1 hb, rwn_mono h.2.2 hb⟩⟩
end Go.Proofs.YtmmbdpdpkkikjaaGreat
