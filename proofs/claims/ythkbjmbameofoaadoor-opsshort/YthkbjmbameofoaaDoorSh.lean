/-
  OpsShort, walked.
-/
import Derived.Test.YthkbjmbameofoaaDoorFo
import Derived.Test.YthkbjmbameofoaaDoorAg
import Derived.Test.YthkbjmbameofoaaDoorSi
namespace Go.Proofs.YthkbjmbameofoaaDoor
open Go.RowKit
set_option linter.unusedVariables false

theorem Lies.head {w : World} {b off : Nat} {xs : List Nat} (h : Lies w (some ⟨b, off, none⟩) xs) (n : Nat) (hn : n ≤ xs.length) : Lies w (some ⟨b, off, none⟩) (xs.take n) := by
  have := h.part 0 n (by omega)
  simpa using this
set_option maxHeartbeats 4000000 in
set_option maxRecDepth 100000 in
theorem short_walk (W : World) (x : In) (ao : Option Addr) (cap : Nat) (hx : InAt W x ao cap) (m : Int) (hm : 0 ≤ m ∧ m < 256) (hN : NamesAt W) :
    Calls Tryd.prog 7 #[insV x (.slice ao x.arms.length cap), .int .u8 m] W fun e w' => e = .returned (.bool true) ∧ Below W.heap.size W w' := by
  obtain ⟨n, hn⟩ : ∃ n, x.arms.length = n := ⟨_, rfl⟩
  have oX := Own.new W #[.int .u8 (x.op : Int), .int .i64 x.a, .int .i64 x.b, .slice ao n cap] 24
  have hb0 := new_below W (.cells #[.int .u8 (x.op : Int), .int .i64 x.a, .int .i64 x.b, .slice ao n cap] 24)
  have hN0 := hN.below hb0
  have hl0 := hx.lies.below hb0
  rw [hn]
  by_cases hbig : 200 < n
  · have hb : (200 : Int) < (n : Int) := by omega
    unfold insV
    generalize (x.op : Int) = N at *
    clear hl0 hx hn
    go_enter Tryd.func7, Tryd.ntmps7
    go_upto_region 1 with fail
    generalize W.alloc (.cells #[.int .u8 N, .int .i64 x.a, .int .i64 x.b, .slice ao n cap] 24) = w1 at *
    obtain ⟨x0, x1, x2, x3, xf⟩ := own4 oX
    go_wp2_with fail
    refine (works_any hN0).mono ?_
    rintro e w2 ⟨rfl, b2⟩
    go_wp2
    go_ret
    exact ⟨rfl, hb0.trans (b2.mono hb0.size)⟩
  · have hsm : (n : Int) ≤ 200 := by omega
    have henc := enc_as (cp := cap) hl0 n hn.symm (by omega)
    have hbyte := enc_byte x hx.lies.op
    have hsmall := enc_small x
    unfold insV at henc ⊢
    obtain ⟨N, hNN⟩ : ∃ N : Int, (x.op : Int) = N := ⟨_, rfl⟩
    rw [hNN] at oX hb0 hN0 hl0 henc ⊢
    by_cases hok : x.ok = true
    · have hpos := (size_pos x).1 hok
      have HSZ := enc_length x
      have HBY : Hid (∀ c ∈ x.enc, c < 256) := hbyte
      have HOK : Hid (x.ok = true) := hok
      have HNN : Hid ((x.op : Int) = N) := hNN
      have HAN : Hid (x.arms.length = n) := hn
      clear hok
      go_enter Tryd.func7, Tryd.ntmps7
      go_upto_region 1 with fail
      generalize W.alloc (.cells #[.int .u8 N, .int .i64 x.a, .int .i64 x.b, .slice ao n cap] 24) = w1 at *
      have HS1 : Hid (W.heap.size ≤ w1.heap.size) := hb0.size
      obtain ⟨x0, x1, x2, x3, xf⟩ := own4 oX
      go_wp2_with fail
      refine Calls.mono henc ?_
      rintro e w2 ⟨v, he, rv, nv, b2⟩
      rw [if_pos HOK.out] at he
      subst he
      replace oX := oX.below b2
      replace hN0 := hN0.below b2
      replace hl0 := hl0.below b2
      replace hb0 := hb0.trans (b2.mono hb0.size)
      obtain ⟨g, ce, cur, rfl, og, hce, hcm, -⟩ := rv.block (by omega)
      obtain ⟨M, hM⟩ : ∃ M, x.enc.length = M := ⟨_, rfl⟩
      have hlv : Lies w2 (some ⟨g, 0, none⟩) x.enc := by
        obtain ⟨ao', cp', e, hl⟩ := row_lies rv hbyte (by omega)
        cases e; exact hl
      rw [hM] at rv hce hsmall HSZ
      simp only [hM]
      have HR : Hid (Rw w2 5 1 (.slice (some ⟨g, 0, none⟩) M ce) M (nums x.enc)) := rv
      have HLV : Hid (Lies w2 (some ⟨g, 0, none⟩) x.enc) := hlv
      have hM1 : 1 ≤ M := by omega
      have HG : Hid (W.heap.size ≤ g) := by
        have := nv g rfl
        unfold Hid
        have := HS1.out; omega
      have HNW : Hid (NamesAt W) := hN
      have HXW : Hid (InLies W x ao) := hx.lies
      have HM : Hid (x.enc.length = M) := hM
      have HSM : Hid (M = x.size) := HSZ
      have HB0 : Hid (Below W.heap.size W w2) := hb0
      have HN2 : Hid (NamesAt w2) := hN0
      have HIN : Hid (InLies w2 x ao) := hl0
      have HOX : Hid (Own w2 W.heap.size #[.int .u8 N, .int .i64 x.a, .int .i64 x.b, .slice ao n cap] 24) := oX
      clear henc x0 x1 x2 x3 xf og rv hlv b2 nv hb0 hN0 hl0 hN hx hpos HSZ hM hNN hbyte oX hn
      go_wp2_with fail
      go_loopw [8] (fun i wr => ∃ k : Nat, 1 ≤ k ∧ k ≤ M ∧ i = .int .i64 (k : Int) ∧ Below w2.heap.size w2 wr) (fun i _ => M - (intOf i).toNat)
      case atStart => exact ⟨1, Nat.le_refl _, hM1, rfl, Below.refl _ _⟩
      case round =>
        obtain ⟨k, hk1, hkM, rfl, hbr⟩ := hrel
        by_cases hlt : k < M ∧ k < 200
        · have hlies := (HLV.out.below hbr).head k (by have := HM.out; omega)
          have hlk : (x.enc.take k).length = k := by rw [List.length_take]; have := HM.out; omega
          have hcall := dec_as (cap := ce) hlies hlk.symm 0
          rw [dec_short x HOK.out k hk1 (by have := HSM.out; omega)] at hcall
          obtain ⟨hl1, hl2⟩ := hlt
          have i1 : (k : Int) < (M : Int) := by omega
          have i2 : (k : Int) < 200 := by omega
          have i3 : (0 : Int) ≤ (k : Int) := by omega
          have i4 : k ≤ ce := by omega
          have HBR : Hid (Below w2.heap.size w2 wr) := hbr
          clear hbr hlies hlk
          go_wp2_with fail
          refine Calls.mono hcall ?_
          rintro e w3 ⟨v, rfl, hrow, -, b3⟩
          have hr0 : Rw w3 46 2 v 0 [] := hrow
          obtain ⟨a3, c3, rfl, -⟩ := hr0.shape
          have ez2 : insV zI (.slice a3 0 c3) = .agg #[.int .u8 0, .int .i64 0, .int .i64 0, .slice a3 0 c3] := rfl
          simp only [ez2]
          have hb3 := HBR.out.trans (b3.mono HBR.out.size)
          clear hcall hrow hr0 b3
          go_wp2
          go_roundw
          case rel => exact ⟨k + 1, by omega, hl1, by go_num, hb3.alloc hb3.size _⟩
          case measure => simp [intOf]; omega
        · have hR2 := HR.out.on (fun g e => hbr.block g (HR.out.lt e))
          obtain ⟨MI, hMI⟩ : ∃ MI : Nat, m = (MI : Int) := Int.eq_ofNat_of_zero_le hm.1
          have oM := Own.new wr #[.int .u8 m] 5
          have rM := hR2.alloc (.cells #[.int .u8 m] 5)
          have hbm := hbr.alloc hbr.size (.cells #[.int .u8 m] 5)
          have HBM : Hid (Below w2.heap.size w2 (wr.alloc (.cells #[.int .u8 m] 5))) := hbm
          have hgM : ∀ b, (Value.slice (some ⟨g, 0, none⟩) M ce).ownBlock = some b → b = g := fun b e => by cases e; rfl
          have HAP : Hid (∀ ao2 cap2 wz, Rw wz 5 1 (.slice ao2 (M + 1) cap2) (M + 1) (nums x.enc ++ [.int .u8 m]) → (wr.alloc (.cells #[.int .u8 m] 5)).grownBy wz (Value.slice (some ⟨g, 0, none⟩) M ce).ownBlock → Own wz W.heap.size #[.int .u8 N, .int .i64 x.a, .int .i64 x.b, .slice ao n cap] 24 ∧ NamesAt wz ∧ InLies wz x ao ∧ Below W.heap.size W wz ∧ Lies wz ao2 (x.enc ++ [MI])) := by
            intro ao2 cap2 wz q1 q2
            have b1 : Below W.heap.size W (wr.alloc (.cells #[.int .u8 m] 5)) := HB0.out.trans (HBM.out.mono HB0.out.size)
            have bz : Below W.heap.size W wz := b1.grown q2 b1.size (fun k e => by rw [hgM k e]; exact HG.out)
            have e1 : nums x.enc ++ [.int .u8 m] = nums (x.enc ++ [MI]) := by rw [nums_append, hMI]; rfl
            have e2 : M + 1 = (x.enc ++ [MI]).length := by rw [List.length_append, HM.out]; rfl
            rw [e1, e2] at q1
            obtain ⟨aa, cc, e, hl⟩ := row_lies q1 (fun c hc => by
              rcases List.mem_append.1 hc with hc | hc
              · exact HBY.out c hc
              · rw [List.mem_singleton.1 hc]; omega) (by rw [← e2]; omega)
            cases e
            refine ⟨((HOX.out.below hbr).alloc _).grown q2 (fun e => rM.ne ((HOX.out.below hbr).alloc _) (by decide) e.symm), HNW.out.below bz, HXW.out.below bz, bz, hl⟩
          have hlt0 : ¬ ((k : Int) < (M : Int) ∧ (k : Int) < 200) := by omega
          have HIMM : Hid (MI < 256) := by unfold Hid; omega
          have HMI : Hid (m = (MI : Int)) := hMI
          clear hbr hR2 hbm hMI
          have hsplit : (M : Int) ≤ (k : Int) ∨ ((k : Int) < (M : Int) ∧ (200 : Int) ≤ (k : Int)) := by omega
          have TAIL : Hid (∀ (ao2 : Option Addr) (cap2 : Nat) (wz : World), Rw wz 5 1 (.slice ao2 (M + 1) cap2) (M + 1) (nums x.enc ++ [.int .u8 m]) → (wr.alloc (.cells #[.int .u8 m] 5)).grownBy wz (Value.slice (some ⟨g, 0, none⟩) M ce).ownBlock → Own wz W.heap.size #[.int .u8 N, .int .i64 x.a, .int .i64 x.b, .slice ao n cap] 24 ∧ NamesAt wz ∧ InLies wz x ao ∧ Below W.heap.size W wz ∧ Calls Tryd.prog 20 #[.slice ao2 (M + 1) cap2, .int .i64 0] wz (DecRet wz (x, M, 0))) := by
            intro ao2 cap2 wz q1 q2
            obtain ⟨k1, k2, k3, k4, k5⟩ := HAP.out ao2 cap2 wz q1 q2
            refine ⟨k1, k2, k3, k4, ?_⟩
            have hc := dec_as (cap := cap2) (L := M + 1) k5 (by rw [List.length_append, HM.out]; rfl) 0
            have hd := dec_enc x HOK.out (x.enc ++ [MI]) [MI] 0 rfl
            rw [show ((0 : Nat) : Int) = 0 from rfl, Nat.zero_add, ← HSM.out] at hd
            rw [hd] at hc
            exact hc
          clear HAP HBM hgM
          rcases hsplit with hs | ⟨hs, hs2⟩
          all_goals
            go_wp2_with (refine wpList_app1 okB (by rfl) (.tmp 58) (.tmp 60) (by rfl) _ M (nums x.enc) (by rfl) rM wr.heap.size [.int .u8 m] (by rfl) oM rfl (by simp [Value.oneCell']) (by omega) ?_; intro ao2 cap2 wz q1 q2 q3; obtain ⟨oX, hNz, hIz, hBz, hDz⟩ := TAIL.out ao2 cap2 wz q1 q2; clear q1 q2 q3 rM oM TAIL)
            refine Calls.mono hDz ?_
            rintro e w4 ⟨v, rfl, hrow, -, b4⟩
            obtain ⟨ay, cy, rfl, harm⟩ := rw_armLies hrow hIz.arms.nums
            replace oX := oX.below b4
            replace hNz := hNz.below b4
            replace hIz := hIz.below b4
            replace hBz := hBz.trans (b4.mono hBz.size)
            clear hDz hrow b4
            have ez2 : insV x (.slice ay x.arms.length cy) = .agg #[.int .u8 N, .int .i64 x.a, .int .i64 x.b, .slice ay n cy] := by unfold insV; rw [HNN.out, HAN.out]
            simp only [ez2]
            have oY := Own.new w4 #[.int .u8 N, .int .i64 x.a, .int .i64 x.b, .slice ay n cy] 24
            have b5 := new_below w4 (.cells #[.int .u8 N, .int .i64 x.a, .int .i64 x.b, .slice ay n cy] 24)
            replace oX := oX.below b5
            replace hNz := hNz.below b5
            replace hIz := hIz.below b5
            replace harm := harm.below b5
            replace hBz := hBz.trans (b5.mono hBz.size)
            clear b5
            go_upto_region 15 with fail
            generalize w4.alloc (.cells #[.int .u8 N, .int .i64 x.a, .int .i64 x.b, .slice ay n cy] 24) = w5 at *
            obtain ⟨x0, x1, x2, x3, xf⟩ := own4 oX
            obtain ⟨y0, y1, y2, y3, yf⟩ := own4 oY
            have hsame := sameIns_eq (c := cap) (c' := cy) HAN.out.symm hIz.arms harm (by omega)
            unfold insV at hsame
            rw [HNN.out] at hsame
            go_wp2_with fail
            refine hsame.mono ?_
            rintro e w6 ⟨rfl, b6⟩
            replace hNz := hNz.below b6
            replace hBz := hBz.trans (b6.mono hBz.size)
            clear b6 hsame
            go_wp2_with fail
            refine (works_any hNz).mono ?_
            rintro e w7 ⟨rfl, b7⟩
            replace hBz := hBz.trans (b7.mono hBz.size)
            clear b7
            go_wp2
            go_ret
            exact ⟨rfl, hBz⟩
    · have hk : x.ok = false := by simpa using hok
      have h0 : x.enc = [] := by
        have h1 := enc_length x
        have h3 : ¬ 0 < x.size := fun q => hok ((size_pos x).2 q)
        exact List.eq_nil_of_length_eq_zero (by omega)
      go_enter Tryd.func7, Tryd.ntmps7
      go_upto_region 1 with fail
      generalize W.alloc (.cells #[.int .u8 N, .int .i64 x.a, .int .i64 x.b, .slice ao n cap] 24) = w1 at *
      obtain ⟨x0, x1, x2, x3, xf⟩ := own4 oX
      go_wp2_with fail
      refine Calls.mono henc ?_
      rintro e w2 ⟨v, he, rv, nv, b2⟩
      rw [hk, if_neg (by simp)] at he
      subst he
      rw [h0] at rv
      have rv0 : Rw w2 5 1 v 0 [] := rv
      obtain ⟨a2, c2, rfl, -⟩ := rv0.shape
      replace hN0 := hN0.below b2
      replace hb0 := hb0.trans (b2.mono hb0.size)
      clear henc rv rv0 nv b2 hl0 hx hN hk hok
      go_wp2_with fail
      refine (works_any hN0).mono ?_
      rintro e w7 ⟨rfl, b7⟩
      replace hb0 := hb0.trans (b7.mono hb0.size)
      clear b7
      go_wp2
      go_ret
      exact ⟨rfl, hb0⟩
end Go.Proofs.YthkbjmbameofoaaDoor
