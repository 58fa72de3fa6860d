/-
  ScopeBlocks: the walk.
-/
import Derived.Test.YtnnajgbkpilaaaaBlkMath
import Derived.Test.YtnnajgbkpilaaaaRunK
import Derived.Test.YtnnajgbkpilaaaaInts
namespace Go.Proofs.Ytnnajgbkpilaaaa
open Go.RowKit
set_option linter.unusedVariables false

theorem findV_form (m : M) (nm : ByteArray) : ∃ (a t : Int) (ok : Bool), m.findV nm = .tuple #[.int .i64 a, .int .i64 t, .bool ok] := by
  unfold M.findV
  split
  · exact ⟨_, _, _, rfl⟩
  · exact ⟨_, _, _, rfl⟩
theorem slSlotsK {B : Nat} {A W : World} {p : Nat} {m : M} (h : Sl B A W p m) : Calls Try.prog 23 #[.pointer (some ⟨p, 0, none⟩)] W fun e w' => ∃ ao cap, e = .returned (.slice ao m.types.length cap) ∧ Rw w' 3 1 (.slice ao m.types.length cap) m.types.length m.rowI ∧ Sk (fun b => b < B ∨ (Value.slice ao m.types.length cap).ownBlock = some b) w' w' p m ∧ Below B A w' := by
  obtain ⟨F, h1, h2, h3, h4⟩ := h
  have hs := h3.size
  refine (slotsS h1).mono ?_
  rintro e w' ⟨v, rfl, k1, k2, k3⟩
  obtain ⟨ao, cap, rfl, -⟩ := k1.shape
  refine ⟨ao, cap, rfl, k1, ⟨F, h1.below k3, fun b hb hk => ?_, Fr.refl _ _, fun b hb => ?_⟩, h3.trans (k3.mono (by omega))⟩
  · rcases hk with q | q
    · have := h2 b hb; omega
    · have := k2 b q
      obtain ⟨_, _, _, _, _, _, _, hb3⟩ := h1
      have := hb3 b hb
      omega
  · rcases hb with q | q
    · have := k3.size; omega
    · exact k1.lt q
def BlRel (K : Nat → Prop) (A : World) (p : Nat) (m0 : M) (N : Nat) (bv tv iv : Value) (wr : World) : Prop :=
  ∃ (k : Nat) (m : M) (b t : Int), iv = .int .i64 k ∧ bv = .int .i64 b ∧ tv = .int .i64 t ∧ k ≤ N ∧ Wi m0 m b t ∧ Sk K A wr p m ∧ Bd m (102 + k)
def ClRel (K : Nat → Prop) (A : World) (p : Nat) (m0 : M) (b t : Int) (iv : Value) (wr : World) : Prop :=
  ∃ (k r : Nat) (m : M), iv = .int .i64 k ∧ ((k : Int) + r = b) ∧ Ci m0 m r t ∧ Sk K A wr p m ∧ Bd m 300
def LvRel (K : Nat → Prop) (A : World) (p : Nat) (m0 : M) (t : Int) (iv : Value) (wr : World) : Prop :=
  ∃ (k r : Nat) (m : M), iv = .int .i64 k ∧ ((k : Int) + r = t) ∧ Li m0 m r ∧ Sk K A wr p m ∧ Bd m 300
theorem Wi.bound {m0 m : M} {b t : Int} {N : Nat} (h : Wi m0 m b t) (hb : Bd m N) : 1 ≤ b ∧ b ≤ N + 1 ∧ 1 ≤ t ∧ t ≤ N := by
  obtain ⟨e, f, g, q1, q2, q3, q4, q5, q6⟩ := h
  have h1 := hb.1
  have h2 := hb.2.1
  rw [q1] at h1
  rw [q3] at h2
  simp only [List.length_append, List.length_singleton] at h1 h2
  omega
theorem wi_start (m0 : M) (nm : ByteArray) (b : Bool) (h : m0.opened.entE nm = 0) : Wi m0 (m0.opened.entered nm b) 1 1 := by
  unfold M.entered
  rw [if_pos h]
  exact ⟨[], [⟨nm, b, m0.next⟩], [], by simp [M.opened], by simp, by simp [M.opened], by simp, by simp [M.opened], by simp⟩
def inLab : ByteArray := ⟨#[105, 110, 110, 101, 114, 32, 108, 97, 98, 101, 108]⟩
set_option maxRecDepth 100000 in
set_option maxHeartbeats 8000000 in
theorem blocks_walk (w : World) (ao0 : Option Addr) (ss0 : List St) (cap0 : Nat) (hs0 : StIn w w.heap.size ao0 ss0) (hc0 : ss0.length ≤ cap0) (hm0 : cap0 ≤ maxLen)
    (ao1 : Option Addr) (ss1 : List St) (cap1 : Nat) (hs1 : StIn w w.heap.size ao1 ss1) (hc1 : ss1.length ≤ cap1) (hm1 : cap1 ≤ maxLen) (nm : ByteArray) (hsz : nm.size ≤ maxLen) (tu : Bool) :
    Calls Try.prog 5 #[.slice ao0 ss0.length cap0, .slice ao1 ss1.length cap1, .string nm, .bool tu] w fun e w' => e = .returned (.bool true) ∧ Below w.heap.size w w' := by
  obtain ⟨n0, hn0⟩ : ∃ n, Hid (ss0.length = n) := ⟨_, rfl⟩
  obtain ⟨n1, hn1⟩ : ∃ n, Hid (ss1.length = n) := ⟨_, rfl⟩
  rw [hn0.out, hn1.out]
  rw [hn0.out] at hc0
  rw [hn1.out] at hc1
  unfold maxLen at hm0 hm1
  by_cases hbig0 : 100 < n0
  · go_enter Try.func5, Try.ntmps5
    go_wp2
    go_ret
    exact ⟨rfl, Below.refl _ _⟩
  by_cases hbig1 : 100 < n1
  · have hle : n0 ≤ 100 := by omega
    clear hbig0
    go_enter Try.func5, Try.ntmps5
    go_wp2
    go_ret
    exact ⟨rfl, Below.refl _ _⟩
  have hle0 : n0 ≤ 100 := by omega
  have hle1 : n1 ≤ 100 := by omega
  clear hbig0 hbig1
  have hN := slNew w
  go_enter Try.func5, Try.ntmps5
  go_upto_region 4 with (go_at_call 8; refine hN.mono ?_; rintro e wa ⟨rfl, ha⟩)
  have hrun := runS ha hs0 (show Bd M.new 0 from ⟨by simp [M.new], by simp [M.new], by simp [M.new]⟩) (by rw [hn0.out]; omega) cap0 (by rw [hn0.out]; exact hc0)
  rw [hn0.out] at hrun
  have hbd0 := Bd.run ss0 1 0 (show Bd M.new 0 from ⟨by simp [M.new], by simp [M.new], by simp [M.new]⟩)
  rw [hn0.out] at hbd0
  obtain ⟨p, hp⟩ : ∃ p, Hid (w.heap.size = p) := ⟨_, rfl⟩
  obtain ⟨R, hR⟩ : ∃ R, runR M.new 1 0 ss0 = R := ⟨_, rfl⟩
  rw [hR] at hrun hbd0
  obtain ⟨m0, b0, t0⟩ := R
  simp only at hrun hbd0
  clear ha hN hR
  rw [hp.out] at hrun hs1 ⊢
  go_upto_region 5 with (go_at_call 24; refine hrun.mono ?_; rintro e wb ⟨rfl, hb⟩)
  clear hrun
  obtain ⟨fa, ft, fo, hfv⟩ := findV_form m0 nm
  have hf := slFind hb nm
  rw [hfv] at hf
  clear hb
  go_upto_region 6 with (go_at_call 19; refine hf.mono ?_; rintro e wc ⟨rfl, hc⟩)
  clear hf
  have htg := slTarget hc (by have := hbd0.2.1; omega) nm hsz tu
  clear hc
  go_upto_region 7 with (go_at_call 18; refine htg.mono ?_; rintro e wd ⟨rfl, hd⟩)
  clear htg
  have hsl := slSlotsK hd
  obtain ⟨L7, hL7⟩ : ∃ L, Hid (m0.types.length = L) := ⟨_, rfl⟩
  have hfew : L7 ≤ 256 := by rw [← hL7.out]; exact hd.inv.few
  rw [hL7.out] at hsl
  clear hd
  go_upto_region 8 with (go_at_call 23; refine hsl.mono ?_; rintro e W7 ⟨ao7, cap7, rfl, hr7, hk7, hB7⟩)
  clear hsl
  obtain ⟨K, hK⟩ : ∃ K : Nat → Prop, Hid ((fun b => b < p ∨ (Value.slice ao7 L7 cap7).ownBlock = some b) = K) := ⟨_, rfl⟩
  rw [hK.out] at hk7
  obtain ⟨tv, htv⟩ : ∃ t : Int, Hid ((m0.tgtV nm tu : Int) = t) := ⟨_, rfl⟩
  obtain ⟨te, hte⟩ : ∃ t : Int, Hid ((m0.tgtE nm tu : Int) = t) := ⟨_, rfl⟩
  rw [htv.out, hte.out]
  have HFV : Hid (m0.findV nm = .tuple #[.int .i64 fa, .int .i64 ft, .bool fo]) := hfv
  have HR7 : Hid (Rw W7 3 1 (.slice ao7 L7 cap7) L7 m0.rowI) := hr7
  have HB7 : Hid (Below p w W7) := hB7
  have HS1 : Hid (StK W7 K ao1 ss1) := by
    refine ⟨hs1.1, ?_⟩
    rcases hs1.2 with q | ⟨b, o, h1, h2, h3⟩
    · exact .inl q
    · exact .inr ⟨b, o, h1, by rw [← hK.out]; exact .inl h2, fun i hi => (h3 i hi).below hB7 h2⟩
  have hop := skOpen hk7 (by have := hbd0.1; omega)
  clear hfv hr7 hB7 hs1 hs0 hk7
  go_upto_region 9 with (go_at_call 20; refine hop.mono ?_; rintro e we ⟨rfl, he⟩)
  clear hop
  have hbd1 := hbd0.opened
  have hen := skEnter he (by have := hbd1.2.1; omega) (by have := hbd1.2.2; omega) inLab (by unfold maxLen; decide) true
  clear he
  rcases entE_cases m0.opened inLab with ⟨hE, _⟩ | ⟨hE, _⟩
  · rw [hE] at hen
    obtain ⟨xv, hxv⟩ : ∃ x : Int, (m0.opened.entV inLab : Int) = x := ⟨_, rfl⟩
    rw [hxv] at hen
    clear hE hxv
    go_upto_region 11 with (go_at_call 17; refine hen.mono ?_; rintro e wf ⟨rfl, hf⟩)
    have hwk := works_as wf
    have HF9 : Hid (Fr (fun b => ¬ K b) W7 wf) := hf.bel
    clear hf hen
    go_wp2_with (go_at_call 15; refine hwk.mono ?_; rintro e wg ⟨rfl, hg⟩)
    go_ret
    refine ⟨rfl, ?_⟩
    have hs7 := HB7.out.size
    have hs9 := HF9.out.size
    rw [hp.out] at hs7 ⊢
    have hB9 : Below p w wf := ⟨HF9.out.os.trans HB7.out.os, HF9.out.tape.trans HB7.out.tape, HF9.out.output.trans HB7.out.output, Nat.le_trans HB7.out.size hs9, fun k hk => (HF9.out.block k (by omega) (by rw [← hK.out]; exact fun q => q (.inl hk))).trans (HB7.out.block k hk)⟩
    exact hB9.trans (hg.mono (by omega))
  · have hW := wi_start m0 inLab true hE
    have hbd2 := (hbd1.entered inLab true).mono (show 0 + n0 + 1 + 1 ≤ 102 by omega)
    rw [hE] at hen
    obtain ⟨xv, hxv⟩ : ∃ x : Int, (m0.opened.entV inLab : Int) = x := ⟨_, rfl⟩
    obtain ⟨m2, hm2⟩ : ∃ x, m0.opened.entered inLab true = x := ⟨_, rfl⟩
    rw [hxv, hm2] at hen
    rw [hm2] at hW hbd2
    clear hE hxv hm2
    go_wp2_with (go_at_call 17; refine hen.mono ?_; rintro e wf ⟨rfl, hf⟩)
    have HST : Hid (Wi m0 m2 1 1 ∧ Sk K W7 wf p m2 ∧ Bd m2 102) := ⟨hW, hf, hbd2⟩
    clear hen hf hW hbd2 hbd1
    go_loopw [18, 19, 20] (fun bv tv iv wr => BlRel K W7 p m0 n1 bv tv iv wr) (fun _ _ i _ => n1 - (intOf i).toNat)
    case atStart => exact ⟨0, m2, 1, 1, rfl, rfl, rfl, Nat.zero_le _, HST.out.1, HST.out.2.1, HST.out.2.2⟩
    case round =>
      clear HST
      obtain ⟨k, m, bk, tk, rfl, rfl, rfl, hk, hw, hsk, hbd⟩ := hrel
      obtain ⟨w1, w2, w3, w4⟩ := hw.bound hbd
      have hbl : bk ≤ 1000 := by omega
      have htl : tk ≤ 1000 := by omega
      clear w2 w4
      by_cases hlt : k < n1
      · obtain ⟨s, hsd⟩ : ∃ s, Hid (ss1.getD k dS = s) := ⟨_, rfl⟩
        have hmem : s ∈ ss1 := by
          rw [← hsd.out, List.getD_eq_getElem?_getD, List.getElem?_eq_getElem (by rw [hn1.out]; exact hlt)]
          exact List.getElem_mem _
        rcases HS1.out.2 with q | ⟨b, o, rfl, hbB, hst⟩
        · rw [q] at hmem; cases hmem
        have hone : Hid (StK W7 K (some ⟨b, o + k * 4, none⟩) [s]) := by
          have := HS1.out.one (i := k) (by rw [hn1.out]; exact hlt)
          rw [hsd.out] at this
          exact this
        have hstk := (hst k (by rw [hn1.out]; exact hlt)).same (hsk.ks hbB)
        rw [hsd.out] at hstk
        obtain ⟨a0, -, -, -⟩ := hstk
        have HW : Hid (Wi m0 m bk tk) := hw
        have HSK : Hid (Sk K W7 wr p m) := hsk
        have HBD : Hid (Bd m (102 + k)) := hbd
        clear hst hmem hw hsk hbd
        obtain ⟨kd, nm', ty, tu'⟩ := s
        simp only at a0
        have hpick := pick6 kd wr
        have hj := pk_lt kd (show 0 < 6 by omega)
        obtain ⟨j, hjj⟩ : ∃ j, Hid (pk kd 6 = j) := ⟨_, rfl⟩
        rw [hjj.out] at hpick hj
        have hrun := runK HSK.out hone.out HBD.out (by simp; omega) (cap1 - k) (by simp; omega)
        simp only [List.length_singleton] at hrun
        obtain ⟨db, hdb⟩ : ∃ d : Int, Hid (dB m ⟨kd, nm', ty, tu'⟩ = d) := ⟨_, rfl⟩
        obtain ⟨dt, hdt⟩ : ∃ d : Int, Hid (dT m ⟨kd, nm', ty, tu'⟩ = d) := ⟨_, rfl⟩
        have hr1 : runR m 1 0 [⟨kd, nm', ty, tu'⟩] = (m.step ⟨kd, nm', ty, tu'⟩, 1 + db, dt) := by rw [← hdb.out, ← hdt.out]; simp [runR]
        rw [hr1] at hrun
        simp only at hrun
        have b1 := dB_bound m ⟨kd, nm', ty, tu'⟩
        have b2 := dT_bound m ⟨kd, nm', ty, tu'⟩
        rw [hdb.out] at b1
        rw [hdt.out] at b2
        obtain ⟨b1, b1'⟩ := b1
        obtain ⟨b2, b2'⟩ := b2
        clear hr1
        have hk1 : k + 1 ≤ cap1 := by omega
        have hkc : ¬ cap1 = k := by omega
        have hgo : Hid (¬ (j = 1 ∧ bk = 1) → ¬ (j = 5 ∧ tk = 1) → ∀ wr', Sk K W7 wr' p (m.step ⟨kd, nm', ty, tu'⟩) → BlRel K W7 p m0 n1 (.int .i64 (bk + db)) (.int .i64 (tk + dt)) (.int .i64 ((k : Int) + 1)) wr') := fun g1 g5 wr' hsk' =>
          ⟨k + 1, m.step ⟨kd, nm', ty, tu'⟩, bk + db, tk + dt, by simp, rfl, rfl, by omega, by
            rw [← hdb.out, ← hdt.out]
            exact HW.out.step _ (by show ¬ (pk kd 6 = 1 ∧ _); rw [hjj.out]; exact g1) (by show ¬ (pk kd 6 = 5 ∧ _); rw [hjj.out]; exact g5), hsk', HBD.out.step _⟩
        have hstay : Hid (BlRel K W7 p m0 n1 (.int .i64 bk) (.int .i64 tk) (.int .i64 ((k : Int) + 1)) wr) := ⟨k + 1, m, bk, tk, by simp, rfl, rfl, by omega, HW.out, HSK.out, HBD.out.mono (by omega)⟩
        have hc5 : j = 1 ∨ j = 5 ∨ (¬ j = 1 ∧ ¬ j = 5) := by omega
        clear hjj
        rcases hc5 with rfl | rfl | ⟨q1, q5⟩
        · by_cases hb1 : bk = 1
          · subst hb1
            go_wp2_with (go_at_call 10; refine hpick.mono ?_; rintro e w1 ⟨rfl, rfl⟩)
            exact ⟨hstay.out, by simp [intOf]; omega⟩
          · have hb2 : (bk == 1) = false := by simpa using hb1
            go_wp2_with (first | (go_at_call 10; refine hpick.mono ?_; rintro e w1 ⟨rfl, rfl⟩) | (go_at_call 24; refine hrun.mono ?_; rintro e wn ⟨rfl, h2⟩; have H2 : Hid (Sk K W7 wn p (m.step ⟨kd, nm', ty, tu'⟩)) := h2; clear h2))
            refine ⟨?_, by simp [intOf]; omega⟩
            have e9 : (bk + (1 + db) - 1 : Int) = bk + db := by omega
            rw [e9]
            exact hgo.out (fun q => hb1 q.2) (fun q => by omega) _ H2.out
        · by_cases hb1 : tk = 1
          · subst hb1
            go_wp2_with (go_at_call 10; refine hpick.mono ?_; rintro e w1 ⟨rfl, rfl⟩)
            exact ⟨hstay.out, by simp [intOf]; omega⟩
          · have hb2 : (tk == 1) = false := by simpa using hb1
            go_wp2_with (first | (go_at_call 10; refine hpick.mono ?_; rintro e w1 ⟨rfl, rfl⟩) | (go_at_call 24; refine hrun.mono ?_; rintro e wn ⟨rfl, h2⟩; have H2 : Hid (Sk K W7 wn p (m.step ⟨kd, nm', ty, tu'⟩)) := h2; clear h2))
            refine ⟨?_, by simp [intOf]; omega⟩
            have e9 : (bk + (1 + db) - 1 : Int) = bk + db := by omega
            rw [e9]
            exact hgo.out (fun q => by omega) (fun q => hb1 q.2) _ H2.out
        · have e1 : ((j : Int) == 1) = false := by simp; omega
          have e5 : ((j : Int) == 5) = false := by simp; omega
          go_wp2_with (first | (go_at_call 10; refine hpick.mono ?_; rintro e w1 ⟨rfl, rfl⟩) | (go_at_call 24; refine hrun.mono ?_; rintro e wn ⟨rfl, h2⟩; have H2 : Hid (Sk K W7 wn p (m.step ⟨kd, nm', ty, tu'⟩)) := h2; clear h2))
          refine ⟨?_, by simp [intOf]; omega⟩
          have e9 : (bk + (1 + db) - 1 : Int) = bk + db := by omega
          rw [e9]
          exact hgo.out (fun q => q1 q.1) (fun q => q5 q.1) _ H2.out
      · have hkl : k = n1 := by omega
        subst hkl
        obtain ⟨rb, hrb⟩ := Int.eq_ofNat_of_zero_le (show 0 ≤ bk by omega)
        obtain ⟨rt, hrt⟩ := Int.eq_ofNat_of_zero_le (show 0 ≤ tk by omega)
        subst hrb hrt
        have HST : Hid (Ci m0 m rb (rt : Int) ∧ Sk K W7 wr p m ∧ Bd m 300) := ⟨hw.ci rb rfl, hsk, hbd.mono (by omega)⟩
        clear hw hsk hbd
        go_wp2_with fail
        go_loopw [24] (fun iv wr => ClRel K W7 p m0 (rb : Int) (rt : Int) iv wr) (fun i _ => rb - (intOf i).toNat)
        case atStart => exact ⟨0, rb, m, rfl, by omega, HST.out.1, HST.out.2.1, HST.out.2.2⟩
        case round =>
          clear HST
          obtain ⟨k2, r, m3, rfl, hkr, hci, hsk, hbd⟩ := hrel
          cases r with
          | succ r =>
            obtain ⟨hcl, hci'⟩ := hci.step
            have hc := skClose hsk (by have := hbd.1; omega)
            rw [hcl] at hc
            have HC : Hid (Ci m0 m3.closed r (rt : Int) ∧ Bd m3.closed 300) := ⟨hci', hbd.closed⟩
            clear hci hci' hcl hsk hbd
            have hk3 : (k2 : Int) < rb := by omega
            go_wp2_with (go_at_call 21; refine hc.mono ?_; rintro e wn ⟨rfl, h2⟩; have H2 : Hid (Sk K W7 wn p m3.closed) := h2; clear h2)
            exact ⟨⟨k2 + 1, r, m3.closed, by simp, by omega, HC.out.1, H2.out, HC.out.2⟩, by simp [intOf]; omega⟩
          | zero =>
            have hk3 : ¬ (k2 : Int) < rb := by omega
            have HST : Hid (Li m0 m3 rt ∧ Sk K W7 wr p m3 ∧ Bd m3 300) := ⟨hci.li rt rfl, hsk, hbd⟩
            clear hci hsk hbd
            go_wp2_with fail
            go_loopw [25] (fun iv wr => LvRel K W7 p m0 (rt : Int) iv wr) (fun i _ => rt - (intOf i).toNat)
            case atStart => exact ⟨0, rt, m3, rfl, by omega, HST.out.1, HST.out.2.1, HST.out.2.2⟩
            case round =>
              clear HST
              obtain ⟨k4, r, m4, rfl, hkr4, hli, hsk, hbd⟩ := hrel
              cases r with
              | succ r =>
                obtain ⟨hcl, hli'⟩ := hli.step
                have hc := skLeave hsk (by have := hbd.2.1; omega)
                rw [hcl] at hc
                have HC : Hid (Li m0 m4.left r ∧ Bd m4.left 300) := ⟨hli', hbd.left⟩
                clear hli hli' hcl hsk hbd
                have hk5 : (k4 : Int) < rt := by omega
                go_wp2_with (go_at_call 22; refine hc.mono ?_; rintro e wn ⟨rfl, h2⟩; have H2 : Hid (Sk K W7 wn p m4.left) := h2; clear h2)
                exact ⟨⟨k4 + 1, r, m4.left, by simp, by omega, HC.out.1, H2.out, HC.out.2⟩, by simp [intOf]; omega⟩
              | zero =>
                have hk5 : ¬ (k4 : Int) < rt := by omega
                obtain ⟨s1, s2, g, s3⟩ := hli.same
                have hf := skFind hsk nm
                rw [s1 nm, HFV.out] at hf
                clear hli
                go_upto_region 32 with (go_at_call 19; refine hf.mono ?_; rintro e wq ⟨rfl, hq⟩)
                have htg := skTarget hq (by have := hbd.2.1; omega) nm hsz tu
                rw [(s2 nm tu).1, (s2 nm tu).2, htv.out, hte.out] at htg
                clear hf hq
                go_upto_region 33 with (go_at_call 18; refine htg.mono ?_; rintro e wq2 ⟨rfl, hq2⟩)
                clear htg
                have hsl := skSlots hq2
                obtain ⟨L9, hL9⟩ : ∃ L, Hid (m4.types.length = L) := ⟨_, rfl⟩
                have hf9 : L9 ≤ 256 := by rw [← hL9.out]; exact hq2.inv.few
                have h79 : L7 ≤ L9 := by rw [← hL9.out, s3, ← hL7.out]; simp
                rw [hL9.out] at hsl
                clear hq2
                go_upto_region 34 with (go_at_call 23; refine hsl.mono ?_; rintro e W9 ⟨ao9, cap9, rfl, hr9, hk9, hc9, hc9'⟩)
                clear hsl
                have h7c : L7 ≤ cap9 := by omega
                unfold maxLen at hc9'
                have i9 := (ints_of hr9).1.take L7
                have e9 : m4.types.take L7 = m0.types := by rw [s3, ← hL7.out, List.take_left]
                rw [e9] at i9
                have hr7 : Rw W9 3 1 (.slice ao7 L7 cap7) L7 m0.rowI := HR7.out.on fun b q => hk9.ks (by rw [← hK.out]; exact .inr q)
                have hsame := sameI W9 ao9 ao7 m0.types m0.types cap9 cap7 i9 (ints_of hr7).1 (by rw [hL7.out]; omega) (by rw [hL7.out]; omega)
                rw [hL7.out, show decide (m0.types = m0.types) = true by simp] at hsame
                have HF9 : Hid (Fr (fun b => ¬ K b) W7 W9) := hk9.bel
                clear i9 e9 hr7 hr9 hk9 s1 s2 s3
                go_wp2_with (first | (go_at_call 25; refine hsame.mono ?_; rintro e wr2 ⟨rfl, hB10⟩; have hwk := works_as wr2) | (go_at_call 15; refine hwk.mono ?_; rintro e wr3 ⟨rfl, hB11⟩))
                go_ret
                refine ⟨rfl, ?_⟩
                have hs7 := HB7.out.size
                have hs9 := HF9.out.size
                have hs10 := hB10.size
                rw [hp.out] at hs7 ⊢
                have hB9 : Below p w W9 := ⟨HF9.out.os.trans HB7.out.os, HF9.out.tape.trans HB7.out.tape, HF9.out.output.trans HB7.out.output, Nat.le_trans HB7.out.size hs9, fun k hk => (HF9.out.block k (by omega) (by rw [← hK.out]; exact fun q => q (.inl hk))).trans (HB7.out.block k hk)⟩
                exact (hB9.trans (hB10.mono (by omega))).trans (hB11.mono (by omega))
end Go.Proofs.Ytnnajgbkpilaaaa
