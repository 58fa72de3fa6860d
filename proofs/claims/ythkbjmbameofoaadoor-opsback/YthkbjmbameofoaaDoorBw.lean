/-
  OpsBack, walked (2).
-/
import Derived.Test.YthkbjmbameofoaaDoorBk
namespace Go.Proofs.YthkbjmbameofoaaDoor
open Go.RowKit
set_option linter.unusedVariables false

theorem intLies_below {w w' : World} {a : Option Addr} {xs : List Int} (h : IntLies w a xs) (hb : Below w.heap.size w w') : IntLies w' a xs := by
  rcases h with h0 | ⟨b, off, rfl, hc⟩
  · exact .inl h0
  · refine .inr ⟨b, off, rfl, fun i hi => ?_⟩
    have h1 := hc i hi
    exact (hb.cell (p := ⟨b, _, none⟩) (World.block_lt_of_cell? w _ h1)).trans h1
theorem back_n {a b : List Nat} {n A B : Nat} (h : n = (a ++ b).length) (ha : a.length = A) (hb : b.length = B) : n = A + B := by rw [h, List.length_append, ha, hb]
theorem ne_of {w : World} {e e' : TypeId} {size size' : Nat} {v v' : Value} {n n' : Nat} {xs xs' : List Value} (h : Rw w e size v n xs) (h' : Rw w e' size' v' n' xs') (ht : e ≠ e') : ∀ k, v.ownBlock = some k → some k ≠ v'.ownBlock := fun k hk e => h.ne2 h' ht k hk e.symm
theorem back_np {W wz : World} {v v' : Value} (np : ∀ b, v.ownBlock = some b → W.heap.size ≤ b) (hb : Below W.heap.size W wz) {o : Obj} (p3 : v'.ownBlock = v.ownBlock ∨ v'.ownBlock = some (wz.alloc o).heap.size) : ∀ b, v'.ownBlock = some b → W.heap.size ≤ b := by
  intro b e
  rcases p3 with p | p
  · exact np b (by rw [← p]; exact e)
  · rw [p] at e; cases e; exact Nat.le_trans hb.size (by simp)
theorem back_lies {w : World} {a : Option Addr} {n c : Nat} {xs : List Nat} (h : Rw w 5 1 (.slice a n c) n (nums xs)) (hn : xs.length = n) (hb : ∀ c ∈ xs, c < 256) (hm : n ≤ 1000000) : Lies w a xs := by
  subst hn
  obtain ⟨aa, cc, e, hl⟩ := row_lies h hb (by omega)
  cases e; exact hl
theorem back_none {w : World} {a : Option Addr} {n c : Nat} {xs : List Value} (h : Rw w 5 1 (.slice a n c) n xs) : a = none → c = 0 := by
  intro e
  subst e
  rcases h.2 with ⟨e, _⟩ | ⟨g, cap, cur, e, _⟩
  · cases e; rfl
  · cases e
set_option maxHeartbeats 8000000 in
set_option maxRecDepth 100000 in
theorem back_walk (W : World) (ao : Option Addr) (cap : Nat) (ss : List Pi) (hs : InssAt W ao cap ss) (hN : NamesAt W) :
    Calls Tryd.prog 6 #[.slice ao ss.length cap] W fun e w' => e = .returned (.bool true) ∧ Below W.heap.size W w' := by
  obtain ⟨n, hn⟩ : ∃ n, ss.length = n := ⟨_, rfl⟩
  have hmax : n ≤ maxLen := by rw [← hn]; exact Nat.le_trans hs.le hs.max
  have hmax2 : n ≤ 9223372036854775807 := by unfold maxLen at hmax; omega
  have HS : Hid (InssAt W ao cap ss) := hs
  have HN : Hid (ss.length = n) := hn
  have HNW : Hid (NamesAt W) := hN
  have HLEN : Hid (∀ y ∈ ss, y.1.arms.length ≤ maxLen) := fun y hy => Nat.le_trans (hs.each y hy).le (hs.each y hy).max
  rw [hn]
  clear hs hn hN
  go_enter Tryd.func6, Tryd.ntmps6
  go_wp2_with fail
  go_loop [3, 4] (fun a i => ∃ k : Nat, k ≤ n ∧ i = .int .i64 (k : Int) ∧ a = .int .i64 (3000 - (sumA ss k : Int)) ∧ (k = 0 ∨ sumA ss (k - 1) ≤ 3000)) (fun _ i => n - (intOf i).toNat)
  case atStart => exact ⟨0, Nat.zero_le _, rfl, by simp [sumA], .inl rfl⟩
  case round =>
    obtain ⟨k, hk, rfl, rfl, hprev⟩ := hrel
    have hbd : sumA ss k ≤ 3000 + maxLen := by
      rcases hprev with rfl | hp
      · simp [sumA]
      · by_cases h0 : k = 0
        · subst h0; simp [sumA]
        · have := sumA_succ (ss := ss) (k := k - 1) (by have := HN.out; omega)
          rw [show k - 1 + 1 = k by omega] at this
          have := HLEN.out _ (getD_mem (ps := ss) (i := k - 1) (by have := HN.out; omega))
          omega
    obtain ⟨S, hS⟩ : ∃ S : Int, (sumA ss k : Int) = S := ⟨_, rfl⟩
    have hS0 : 0 ≤ S := by omega
    have hS1 : S ≤ 9223372036854778807 := by unfold maxLen at hbd; omega
    by_cases hgo : k < n ∧ sumA ss k ≤ 3000
    · have hkx : k < ss.length := by rw [HN.out]; exact hgo.1
      rcases HS.out.lies.lies with h0 | ⟨b, off, rfl, hbl, hc⟩
      · rw [h0] at hkx; cases hkx
      have e3 := (hc k hkx).2.2.2
      have hal := HLEN.out _ (getD_mem hkx)
      have hsucc := sumA_succ hkx
      generalize ss.getD k zP = Y at *
      obtain ⟨X, a1, c1⟩ := Y
      simp only at e3 hal hsucc
      obtain ⟨A, hA⟩ : ∃ A, X.arms.length = A := ⟨_, rfl⟩
      rw [hA] at e3 hal hsucc
      have i1 : (k : Int) < (n : Int) := by omega
      have i2 : (0 : Int) ≤ 3000 - S := by omega
      have hA2 : A ≤ 9223372036854775807 := by unfold maxLen at hal; omega
      rw [hS]
      have HSU : Hid (sumA ss (k + 1) = sumA ss k + A) := hsucc
      have HP : Hid (sumA ss k ≤ 3000) := hgo.2
      have hk1 : k + 1 ≤ n := hgo.1
      have HSS : Hid ((sumA ss k : Int) = S) := hS
      clear hc hsucc hgo hbd hprev hal hS
      go_wp2
      go_round
      case rel =>
        refine ⟨k + 1, hk1, by go_num, ?_, .inr (by simpa using HP.out)⟩
        rw [HSU.out]
        congr 1
        have := HSS.out
        simp only [Int.natCast_add]
        omega
      case measure => simp [intOf]; omega
    · have hw := works_any HNW.out
      rw [hS]
      by_cases hkn : k < n
      · have i1 : (k : Int) < (n : Int) := by omega
        have i2 : 3000 - S < 0 := by omega
        clear hgo hbd hprev hS
        by_cases h3 : (300 : Int) < (n : Int)
        all_goals
          go_wp2_with fail
          refine hw.mono ?_
          rintro e w1 ⟨rfl, b1⟩
          go_wp2
          go_ret
          exact ⟨rfl, b1⟩
      · have hkn2 : k = n := by omega
        have i1 : (n : Int) ≤ (k : Int) := by omega
        by_cases hbig : 300 < n ∨ 3000 < S
        · clear hgo hbd hprev hS hkn hkn2
          by_cases h3 : (300 : Int) < (n : Int)
          · go_wp2_with fail
            refine hw.mono ?_
            rintro e w1 ⟨rfl, b1⟩
            go_wp2
            go_ret
            exact ⟨rfl, b1⟩
          · have i2 : 3000 - S < 0 := by omega
            clear hbig
            go_wp2_with fail
            refine hw.mono ?_
            rintro e w1 ⟨rfl, b1⟩
            go_wp2
            go_ret
            exact ⟨rfl, b1⟩
        · subst hkn2
          have h3 : (k : Int) ≤ 300 := by omega
          have i2 : (0 : Int) ≤ 3000 - S := by omega
          have HTOT : Hid (sumA ss ss.length ≤ 3000) := by unfold Hid; rw [HN.out]; omega
          have REL : Hid (BkRel W ss (.slice none 0 0) (.slice none 0 0) (.slice none 0 0) (.int .i64 0) W) :=
            ⟨⟨0, Nat.zero_le _, rfl, World.ownsRow_nil _ _ _ _, World.ownsRow_nil _ _ _ _, World.ownsRow_nil _ _ _ _⟩, by simp [Value.ownBlock], by simp [Value.ownBlock], by simp [Value.ownBlock], Below.refl _ _⟩
          clear hbig hgo hbd hprev hS hkn hw hS0 hS1
          go_wp2_with fail
          obtain ⟨n, rfl⟩ : ∃ n, k = n := ⟨_, rfl⟩
          go_loopw [5, 6, 7, 8] (fun vc vw vp i wr => BkRel W ss vc vw vp i wr) (fun _ _ _ i _ => k - (intOf i).toNat)
          case atStart => exact REL.out
          case round =>
            clear REL
            obtain ⟨⟨j, hj, rfl, rc, rw_, rp⟩, nc, nw, np, hbel⟩ := hrel
            obtain ⟨cA, cC, rfl, -⟩ := rc.shape
            obtain ⟨wA, wC, rfl, -⟩ := rw_.shape
            obtain ⟨pA, pC, rfl, -⟩ := rp.shape
            by_cases hjk : j < k
            · have hjs : j < ss.length := by rw [HN.out]; exact hjk
              have hLl := HS.out.lies.below hbel
              rcases hLl.lies with h0 | ⟨b, off, rfl, hbl, hc⟩
              · rw [h0] at hjs; cases hjs
              obtain ⟨c0, c1, c2, c3⟩ := hc j hjs
              have hin := hLl.each _ (getD_mem hjs)
              have HFS := fs_succ hjs
              have HSA := sumA_le ss j (by omega)
              have hal := HLEN.out _ (getD_mem hjs)
              have hsmA : (ss.getD j zP).1.arms.length ≤ 3000 := by
                have h1 := sumA_succ hjs
                have h2 := sumA_le ss (j + 1) (by omega)
                have := HTOT.out
                omega
              generalize ss.getD j zP = Y at *
              obtain ⟨X, a1, cp1⟩ := Y
              simp only at c0 c1 c2 c3 hin HFS hal hsmA
              obtain ⟨A, hA⟩ : ∃ A, X.arms.length = A := ⟨_, rfl⟩
              obtain ⟨N, hNN⟩ : ∃ N : Int, (X.op : Int) = N := ⟨_, rfl⟩
              have henc := enc_as (cp := cp1) hin A hA.symm (by omega)
              unfold insV at henc
              rw [hNN] at henc c0
              rw [hA] at c3 hsmA
              have i3 : (j : Int) < (k : Int) := by omega
              have i4 : (0 : Int) ≤ (j : Int) := by omega
              have HNN : Hid ((X.op : Int) = N) := hNN
              have HA : Hid (X.arms.length = A) := hA
              clear hc hal hA hNN
              go_wp2_with fail
              refine Calls.mono henc ?_
              rintro e w1 ⟨v, he, rv, nv, b1⟩
              clear henc
              replace rc := rc.on fun g e => b1.block g (rc.lt e)
              replace rw_ := rw_.on fun g e => b1.block g (rw_.lt e)
              replace rp := rp.on fun g e => b1.block g (rp.lt e)
              replace c0 := (b1.cell (p := ⟨b, _, none⟩) hbl).trans c0
              replace c1 := (b1.cell (p := ⟨b, _, none⟩) hbl).trans c1
              replace c2 := (b1.cell (p := ⟨b, _, none⟩) hbl).trans c2
              replace c3 := (b1.cell (p := ⟨b, _, none⟩) hbl).trans c3
              replace hin := hin.below b1
              have nv2 : ∀ b, v.ownBlock = some b → W.heap.size ≤ b := fun b e => Nat.le_trans hbel.size (nv b e)
              replace hbel := hbel.trans (b1.mono hbel.size)
              replace hbl := Nat.lt_of_lt_of_le hbl b1.size
              clear b1 nv
              have hsz := size_as (cp := cp1) hin A HA.out.symm (by omega)
              unfold insV at hsz
              rw [HNN.out] at hsz
              obtain ⟨va, vc, rfl, -⟩ := rv.shape
              by_cases hok : X.ok = true
              · have hel := enc_length X
                rw [if_pos hok] at he
                subst he
                go_wp2_with fail
                refine hsz.mono ?_
                rintro e w2 ⟨rfl, b2⟩
                replace rc := rc.on fun g e => b2.block g (rc.lt e)
                replace rw_ := rw_.on fun g e => b2.block g (rw_.lt e)
                replace rp := rp.on fun g e => b2.block g (rp.lt e)
                replace rv := rv.on fun g e => b2.block g (rv.lt e)
                replace c0 := (b2.cell (p := ⟨b, _, none⟩) hbl).trans c0
                replace c1 := (b2.cell (p := ⟨b, _, none⟩) hbl).trans c1
                replace c2 := (b2.cell (p := ⟨b, _, none⟩) hbl).trans c2
                replace c3 := (b2.cell (p := ⟨b, _, none⟩) hbl).trans c3
                replace hbel := hbel.trans (b2.mono hbel.size)
                replace hbl := Nat.lt_of_lt_of_le hbl b2.size
                clear b2 hsz
                have hposx := size_pos X
                have hes := enc_small X
                obtain ⟨Z, hZ⟩ : ∃ Z, X.size = Z := ⟨_, rfl⟩
                rw [hZ] at hel hposx
                simp only [hZ]
                rw [hel] at hes
                have hZ1 : 0 < Z := hposx.1 hok
                rw [if_pos hok] at HFS
                have hz2 : (0 : Int) < (Z : Int) := by omega
                have hle1 := fs_len ss j
                have hcb := code_bound ss j (by omega)
                have htot := HTOT.out
                obtain ⟨F, hF⟩ : ∃ F, (fs ss j).length = F := ⟨_, rfl⟩
                obtain ⟨CL, hCL⟩ : ∃ CL, (codeOf (fs ss j)).length = CL := ⟨_, rfl⟩
                have HROWV : Hid (Rw w2 5 1 (.slice va X.enc.length vc) X.enc.length (nums X.enc)) := rv
                have HBY : Hid (∀ c ∈ X.enc, c < 256) := enc_byte X hin.op
                rw [hel] at rv
                simp only [hF, hCL] at rc rw_ rp nc nw np hle1 hcb ⊢
                have HFF : Hid ((fs ss j).length = F) := hF
                have HCL : Hid ((codeOf (fs ss j)).length = CL) := hCL
                have HZE : Hid (X.enc.length = Z) := hel
                have oE := Own.new w2 #[.int .u8 N, .int .i64 X.a, .int .i64 X.b, .slice a1 A cp1] 24
                have rA := rw_.alloc (.cells #[.int .u8 N, .int .i64 X.a, .int .i64 X.b, .slice a1 A cp1] 24)
                have HAP : Hid (∀ ao2 cap2 wz, Rw wz 24 4 (.slice ao2 (F + 1) cap2) (F + 1) (insC ((fs ss j).map pv) ++ [.int .u8 N, .int .i64 X.a, .int .i64 X.b, .slice a1 A cp1]) → (w2.alloc (.cells #[.int .u8 N, .int .i64 X.a, .int .i64 X.b, .slice a1 A cp1] 24)).grownBy wz (Value.slice wA F wC).ownBlock → ((Value.slice ao2 (F + 1) cap2).ownBlock = (Value.slice wA F wC).ownBlock ∨ (Value.slice ao2 (F + 1) cap2).ownBlock = some (w2.alloc (.cells #[.int .u8 N, .int .i64 X.a, .int .i64 X.b, .slice a1 A cp1] 24)).heap.size) →
                    Rw wz 5 1 (.slice cA CL cC) CL (nums (codeOf (fs ss j))) ∧ Rw wz 3 1 (.slice pA F pC) F (intC (plc 0 (fs ss j))) ∧ Rw wz 5 1 (.slice va Z vc) Z (nums X.enc) ∧ Below W.heap.size W wz ∧ (∀ b, (Value.slice ao2 (F + 1) cap2).ownBlock = some b → W.heap.size ≤ b)) := by
                  intro ao2 cap2 wz q1 q2 q3
                  have e2 : ∀ {size : Nat} {e : TypeId} {v : Value} {n : Nat} {ys : List Value}, Rw w2 e size v n ys → e ≠ 24 → Rw wz e size v n ys := fun {size e v n ys} h he => (h.alloc _).grown q2 (fun k hk => (h.alloc _).ne2 rA he k hk |> fun hh e' => hh e'.symm)
                  refine ⟨e2 rc (by decide), e2 rp (by decide), e2 rv (by decide), (hbel.alloc hbel.size _).grown q2 (Nat.le_trans hbel.size (by simp)) (fun k e => nw k e), fun b e => ?_⟩
                  rcases q3 with q3 | q3
                  · exact nw b (by rw [← q3]; exact e)
                  · rw [q3] at e; cases e; exact Nat.le_trans hbel.size (by simp)
                clear rc rp rv rw_
                go_wp2_with (first
                  | (refine wpList_app1 okX (by rfl) (.tmp 81) (.tmp 86) (by rfl) _ F (insC ((fs ss j).map pv)) (by rfl) rA w2.heap.size [.int .u8 N, .int .i64 X.a, .int .i64 X.b, .slice a1 A cp1] (by rfl) oE rfl (by simp [Value.oneCell']) (by omega) ?_; intro ao2 cap2 wz q1 q2 q3; obtain ⟨kc, kp, kv, kb, kw⟩ := HAP.out ao2 cap2 wz q1 q2 q3; have rW := q1; clear q1 q2 q3 rA oE HAP; have oI := Own.new wz #[.int .i64 (CL : Int)] 3; have rI := kp.alloc (.cells #[.int .i64 (CL : Int)] 3); have rW2 := rW.alloc (.cells #[.int .i64 (CL : Int)] 3); have kc2 := kc.alloc (.cells #[.int .i64 (CL : Int)] 3); have kv2 := kv.alloc (.cells #[.int .i64 (CL : Int)] 3); have kb2 := kb.alloc kb.size (.cells #[.int .i64 (CL : Int)] 3); clear kc kp kv rW)
                  | (refine wpList_app1 okN (by rfl) (.tmp 88) (.tmp 91) (by rfl) _ F (intC (plc 0 (fs ss j))) (by rfl) rI wz.heap.size [.int .i64 (CL : Int)] (by rfl) oI rfl (by simp [Value.oneCell']) (by omega) ?_; intro ao3 cap3 wy p1 p2 p3; have rI3 := p1; have nI3 : ∀ b, (Value.slice ao3 (F + 1) cap3).ownBlock = some b → W.heap.size ≤ b := (back_np np kb p3); have rW3 := rW2.grown p2 (ne_of rW2 rI (by decide)); have kc3 := kc2.grown p2 (ne_of kc2 rI (by decide)); have kv3 := kv2.grown p2 (ne_of kv2 rI (by decide)); have kb3 := kb2.grown p2 kb2.size (fun k e => np k e); clear p1 p2 p3 rI oI rW2 kc2 kv2 kb2; have lv3 := back_lies kv3 HZE.out HBY.out (by omega))
                  | (refine wpList_appL (by rfl) (.tmp 93) (.tmp 94) (by rfl) (.slice cA CL cC) (codeOf (fs ss j)) (by rfl) (by rw [HCL.out]; exact kc3) va Z vc X.enc (by rfl) lv3 HZE.out.symm (back_none kv3) (by rw [HCL.out]; omega) ?_; intro ao4 n4 c4 wx t0 t1 t2 t3; have t4 : n4 = CL + Z := back_n t0 HCL.out HZE.out; clear t0; subst t4))
                have hF1 : (fs ss (j + 1)).length = F + 1 := by rw [HFS, List.length_append, HFF.out]; rfl
                have hcode : codeOf (fs ss (j + 1)) = codeOf (fs ss j) ++ X.enc := by rw [HFS]; simp [codeOf]
                have b4 : Below W.heap.size W wx := kb3.grown t2 kb3.size (fun k e => nc k e)
                have REL2 : Hid (BkRel W ss (.slice ao4 (CL + Z) c4) (.slice ao2 (F + 1) cap2) (.slice ao3 (F + 1) cap3) (.int .i64 ((j : Int) + 1)) wx) := by
                  refine ⟨⟨j + 1, by omega, by simp, by rw [hcode]; exact t1, ?_, ?_⟩, ?_, kw, nI3, b4⟩
                  · rw [hF1, HFS, List.map_append, insC_append]
                    have e : insC (List.map pv [(X, a1, cp1)]) = [.int .u8 N, .int .i64 X.a, .int .i64 X.b, .slice a1 A cp1] := by
                      show [Value.int .u8 (X.op : Int), .int .i64 X.a, .int .i64 X.b, .slice a1 X.arms.length cp1] ++ [] = _
                      rw [HNN.out, HA.out]; rfl
                    rw [e]
                    exact rW3.grown t2 (ne_of rW3 kc3 (by decide))
                  · rw [hF1, HFS, plc_append, Nat.zero_add, HCL.out]
                    have e : intC (plc 0 (fs ss j) ++ [CL]) = intC (plc 0 (fs ss j)) ++ [.int .i64 (CL : Int)] := by simp [intC]
                    rw [e]
                    exact rI3.grown t2 (ne_of rI3 kc3 (by decide))
                  · intro b e
                    rcases t3 with t3 | t3
                    · exact nc b (by rw [← t3]; exact e)
                    · rw [t3] at e; cases e; exact kb3.size
                clear rW3 rI3 kc3 kv3 kb3 t1 t2 t3 lv3 b4
                go_wp2
                go_roundw
                case rel => exact REL2.out
                case measure => simp [intOf]; omega
              · have hel := enc_length X
                rw [if_neg hok] at he
                subst he
                go_wp2_with fail
                refine hsz.mono ?_
                rintro e w2 ⟨rfl, b2⟩
                replace rc := rc.on fun g e => b2.block g (rc.lt e)
                replace rw_ := rw_.on fun g e => b2.block g (rw_.lt e)
                replace rp := rp.on fun g e => b2.block g (rp.lt e)
                replace rv := rv.on fun g e => b2.block g (rv.lt e)
                replace c0 := (b2.cell (p := ⟨b, _, none⟩) hbl).trans c0
                replace c1 := (b2.cell (p := ⟨b, _, none⟩) hbl).trans c1
                replace c2 := (b2.cell (p := ⟨b, _, none⟩) hbl).trans c2
                replace c3 := (b2.cell (p := ⟨b, _, none⟩) hbl).trans c3
                replace hbel := hbel.trans (b2.mono hbel.size)
                replace hbl := Nat.lt_of_lt_of_le hbl b2.size
                clear b2 hsz
                have hposx := size_pos X
                have hes := enc_small X
                obtain ⟨Z, hZ⟩ : ∃ Z, X.size = Z := ⟨_, rfl⟩
                rw [hZ] at hel hposx
                simp only [hZ]
                rw [hel] at hes
                have hZ0 : Z = 0 := by
                  by_cases q : 0 < Z
                  · exact absurd (hposx.2 q) hok
                  · omega
                rw [if_neg hok] at HFS
                subst hZ0
                have REL2 : Hid (BkRel W ss (.slice cA (codeOf (fs ss j)).length cC) (.slice wA (fs ss j).length wC) (.slice pA (fs ss j).length pC) (.int .i64 ((j : Int) + 1)) w2) := by
                  refine ⟨⟨j + 1, by omega, by simp, ?_, ?_, ?_⟩, nc, nw, np, hbel⟩
                  · rw [HFS]; exact rc
                  · rw [HFS]; exact rw_
                  · rw [HFS]; exact rp
                clear rc rw_ rp rv hbel
                go_wp2
                go_roundw
                case rel => exact REL2.out
                case measure => simp [intOf]; omega
            · have hjn : j = ss.length := by have := HN.out; omega
              have hcb := code_bound ss j hj
              have htot := HTOT.out
              have hle1 := fs_len ss j
              have hsumj : sumA ss j ≤ 3000 := by rw [hjn]; exact htot
              have hj300 : j ≤ 300 := by have := HN.out; omega
              have HBYC : ∀ c ∈ codeOf (fs ss j), c < 256 := code_byte _ (fun y hy => (HS.out.lies.each y (fs_mem ss j y hy)).op)
              obtain ⟨aa, cc, ee, hlc⟩ := row_lies rc HBYC (by omega)
              cases ee
              have hall := all_as (cap := cC) hlc rfl (by omega)
              rw [code_all _ (fs_ok ss j)] at hall
              have hj2 : (k : Int) ≤ (j : Int) := by have := HN.out; omega
              obtain ⟨CL, hCL⟩ : ∃ CL, (codeOf (fs ss j)).length = CL := ⟨_, rfl⟩
              obtain ⟨F, hF⟩ : ∃ F, (fs ss j).length = F := ⟨_, rfl⟩
              have HFF : Hid ((fs ss j).length = F) := hF
              rw [hCL] at hall
              simp only [hCL, hF] at rc rw_ rp ⊢
              have hN2 : NamesAt wr := HNW.out.below hbel
              have HWL : Hid (∀ y ∈ fs ss j, InLies wr y.1 y.2.1) := fun y hy => (HS.out.lies.each y (fs_mem ss j y hy)).below hbel
              clear hcb htot hsumj HBYC hlc hCL rc nc
              go_wp2_with fail
              refine Calls.mono hall ?_
              rintro e w1 ⟨vl, vp, ps, rfl, hps, hrow, hints, -, b1⟩
              obtain ⟨a2, c2, qs, rfl, hq1, hq2⟩ := insRow_lies hrow (fun y hy => by
                have hm : y.1 ∈ ps.map Prod.fst := List.mem_map.2 ⟨y, hy, rfl⟩
                rw [hps] at hm
                obtain ⟨z, hz, e⟩ := List.mem_map.1 hm
                rw [← e]; exact fs_ok ss j z hz)
              have hpl : ps.length = F := by
                have := congrArg List.length hps
                rw [List.length_map, List.length_map] at this
                rw [this, HFF.out]
              have rw2 := rw_.on fun g e => b1.block g (rw_.lt e)
              have rp2 := rp.on fun g e => b1.block g (rp.lt e)
              have rw3 : Rw w1 24 4 (.slice wA F wC) (fs ss j).length (insC ((fs ss j).map pv)) := by rw [HFF.out]; exact rw2
              obtain ⟨a3, c3, e3, hwl⟩ := want_lies rw3 (fun y hy => (HWL.out y hy).below b1)
              rw [HFF.out] at e3
              cases e3
              have hi1 : ∃ ap cp, vp = .slice ap F cp ∧ IntLies w1 ap ((plc 0 (fs ss j)).map fun (x : Nat) => (x : Int)) := by
                refine rw_intLies (by rw [List.length_map, plc_length, HFF.out]) ?_
                have h := hints
                rw [show (((fs ss j).map Prod.fst, plc 0 (fs ss j), 0).2.1).length = F by show (plc 0 (fs ss j)).length = F; rw [plc_length, HFF.out]] at h
                rw [List.map_map]; exact h
              obtain ⟨ap, cp, rfl, hil⟩ := hi1
              have hi2 : ∃ ap cp, (Value.slice pA F pC) = .slice ap F cp ∧ IntLies w1 ap ((plc 0 (fs ss j)).map fun (x : Nat) => (x : Int)) := by
                refine rw_intLies (by rw [List.length_map, plc_length, HFF.out]) ?_
                rw [List.map_map]; exact rp2
              obtain ⟨ap2, cp2, e4, hil2⟩ := hi2
              cases e4
              have hsame := sameInss_eq (c := c2) (c' := wC) (n := F) (ps := qs) (qs := fs ss j) (by rw [← hpl, ← List.length_map (f := Prod.fst), ← hq1, List.length_map]) (by rw [hq1, hps]) hq2 hwl (by omega) (fun y hy => by
                have hm : y.1 ∈ qs.map Prod.fst := List.mem_map.2 ⟨y, hy, rfl⟩
                rw [hq1, hps] at hm
                obtain ⟨z, hz, e⟩ := List.mem_map.1 hm
                have := (ok_in (fs_ok ss j z hz)).2.2.2.2
                rw [← e]; omega)
              replace hbel := hbel.trans (b1.mono hbel.size)
              replace hN2 := hN2.below b1
              rw [hpl]
              clear hall hrow hints hps hq1 rw_ rp rw2 rp2 rw3 b1 hq2 hwl
              go_wp2_with fail
              refine hsame.mono ?_
              rintro e w2 ⟨rfl, b2⟩
              replace hbel := hbel.trans (b2.mono hbel.size)
              replace hN2 := hN2.below b2
              have hil3 := intLies_below hil b2
              have hil4 := intLies_below hil2 b2
              have hsi := sameInts_eq (c := cp) (c' := pC) (n := F) (by rw [List.length_map, plc_length, HFF.out]) hil3 hil4 (by omega)
              clear hsame b2 hil hil2
              go_wp2_with fail
              refine hsi.mono ?_
              rintro e w3 ⟨rfl, q, rfl⟩
              have hN3 : NamesAt (w2.drewN q) := hN2
              have hb3 := below_drawn hbel q
              clear hsi hil3 hil4
              go_wp2_with fail
              refine (works_any hN3).mono ?_
              rintro e w4 ⟨rfl, b4⟩
              replace hb3 := hb3.trans (b4.mono hb3.size)
              clear b4
              go_wp2
              go_ret
              exact ⟨rfl, hb3⟩
end Go.Proofs.YthkbjmbameofoaaDoor
