/-
  OpsForth, walked.
-/
import Derived.Test.YtffnlcamobekoaaDoorKt
namespace Go.Proofs.YtffnlcamobekoaaDoor
open Go.RowKit
set_option linter.unusedVariables false

theorem Lies.part {w : World} {b off : Nat} {xs : List Nat} (h : Lies w (some ⟨b, off, none⟩) xs) (p n : Nat) (hp : p + n ≤ xs.length) : Lies w (some ⟨b, off + p, none⟩) ((xs.drop p).take n) := by
  have hlen : ((xs.drop p).take n).length = n := by rw [List.length_take, List.length_drop]; omega
  refine ⟨fun c hc => h.1 c (List.mem_of_mem_drop (List.mem_of_mem_take hc)), by have := h.2.1; omega, ?_⟩
  rcases h.2.2 with h0 | ⟨b', off', e, hc⟩
  · subst h0; exact .inl (by simp)
  · cases e
    refine .inr ⟨b, off + p, rfl, fun i hi => ?_⟩
    rw [hlen] at hi
    have := hc (p + i) (by omega)
    rw [show off + p + i = off + (p + i) by omega, this]
    congr 3
    simp only [List.getD, List.getElem?_take, List.getElem?_drop, if_pos hi]
theorem row_lies {w : World} {v : Value} {xs : List Nat} (h : Rw w 5 1 v xs.length (nums xs)) (hb : ∀ c ∈ xs, c < 256) (hm : xs.length ≤ 9223372036854775807) : ∃ ao cp, v = .slice ao xs.length cp ∧ Lies w ao xs := by
  obtain ⟨ao, cp, rfl, -⟩ := h.shape
  refine ⟨ao, cp, rfl, hb, hm, ?_⟩
  by_cases h0 : xs = []
  · exact .inl h0
  · obtain ⟨g, cap, cur, e, ho, -⟩ := h.block (List.length_pos_iff.2 h0)
    cases e
    refine .inr ⟨g, 0, rfl, fun i hi => ?_⟩
    rw [Nat.zero_add]
    exact h.cells i _ (nums_get xs i hi)
theorem strN_eq {a b : List Nat} (h : a = b) : strN a = strN b := by rw [h]
set_option maxHeartbeats 4000000 in
set_option maxRecDepth 100000 in
theorem forth_walk (W : World) (a : Option Addr) (L cap : Nat) (xs : List Nat) (hl : Lies W a xs) (hL : L = xs.length) (hcap : L ≤ cap) (hcm : cap ≤ maxLen) (at_ : Int) (h1 : -9223372036854775808 ≤ at_) (h2 : at_ ≤ 9223372036854775807) (hN : NamesAt W) :
    Calls Tryd.prog 8 #[.slice a L cap, .int .i64 at_] W fun e w' => e = .returned (.bool true) ∧ Below W.heap.size W w' := by
  by_cases hbig : 65536 < L
  · have hb : (65536 : Int) < (L : Int) := by omega
    clear hl
    go_enter Tryd.func8, Tryd.ntmps8
    go_wp2_with fail
    refine (works_any hN).mono ?_
    rintro e w1 ⟨rfl, b1⟩
    go_wp2
    go_ret
    exact ⟨rfl, b1⟩
  · obtain ⟨p, hp⟩ : ∃ p, pk at_ (L : Int) = p := ⟨_, rfl⟩
    have hpick := pick_as at_ (L : Int) h1 h2 (by omega) p hp W
    have hdec := dec_as (cap := cap) hl hL p
    have hsm : (L : Int) ≤ 65536 := by omega
    cases hd : dec xs p with
    | mk X q =>
    obtain ⟨q, er⟩ := q
    rw [hd] at hdec
    by_cases h0 : er = 0
    · subst h0
      obtain ⟨d1, d2, d3, d4, d5, d6, d7⟩ := dec_forth xs hl.1 p X q hd
      obtain ⟨k, rfl⟩ := Int.eq_ofNat_of_zero_le d1
      rw [Int.toNat_natCast] at d5
      have hkq : k < q := by omega
      have hql : q ≤ L := by omega
      obtain ⟨b, off, rfl, hcell⟩ : ∃ b off, a = some ⟨b, off, none⟩ ∧ ∀ i, i < xs.length → W.cell? ⟨b, off + i, none⟩ = some (.int .u8 ((xs.getD i 0 : Nat) : Int)) := by
        rcases hl.2.2 with hz | hz
        · rw [hz] at d3; simp at d3; omega
        · exact hz
      have hin := ok_in d4
      have HL : Hid (Lies W (some ⟨b, off, none⟩) xs) := hl
      have HE : Hid (X.enc = (xs.drop k).take (q - k)) := d5
      have HSZ : Hid ((X.size : Int) = (q : Int) - (k : Int)) := d6
      have HOK : Hid (X.ok = true) := d4
      have HXL : Hid (k + (q - k) ≤ xs.length) := by unfold Hid; omega
      have HLEN : Hid (((xs.drop k).take (q - k)).length = q - k) := by unfold Hid; rw [List.length_take, List.length_drop]; omega
      clear hd hl d5 d6 d3 d2 d1 d7 hcell h1 h2 hp d4 hL
      go_enter Tryd.func8, Tryd.ntmps8
      go_wp2_with fail
      refine hpick.mono ?_
      rintro e w0 ⟨rfl, rfl⟩
      clear hpick
      go_wp2_with fail
      refine Calls.mono hdec ?_
      rintro e w1 ⟨v, rfl, hrow, -, b1⟩
      obtain ⟨ao, cp, rfl, harm⟩ := rw_armLies hrow hin.2.2.2.1
      have hN1 := hN.below b1
      have hl1 := HL.out.below b1
      clear hdec hrow
      unfold insV
      obtain ⟨N, hNN⟩ : ∃ N : Int, (X.op : Int) = N := ⟨_, rfl⟩
      simp only [hNN]
      have oX := Own.new w1 #[.int .u8 N, .int .i64 X.a, .int .i64 X.b, .slice ao X.arms.length cp] 24
      have b2 := new_below w1 (.cells #[.int .u8 N, .int .i64 X.a, .int .i64 X.b, .slice ao X.arms.length cp] 24)
      replace hN1 := hN1.below b2
      replace hl1 := hl1.below b2
      replace harm := harm.below b2
      replace b1 := b1.trans (b2.mono b1.size)
      clear b2
      go_upto_region 5 with fail
      generalize w1.alloc (.cells #[.int .u8 N, .int .i64 X.a, .int .i64 X.b, .slice ao X.arms.length cp] 24) = w2 at *
      have hil : ∀ {w' : World}, Below w2.heap.size w2 w' → InLies w' X ao := fun h => ⟨hin.1, hin.2.1, hin.2.2.1, harm.below h⟩
      have henc := enc_as (cp := cp) (hil (Below.refl _ _)) X.arms.length rfl (by have := hin.2.2.2.2; omega)
      have HSIZE : Hid (∀ w', Below w2.heap.size w2 w' → Calls Tryd.prog 13 #[.agg #[.int .u8 N, .int .i64 X.a, .int .i64 X.b, .slice ao X.arms.length cp]] w' fun e w'' => e = .returned (.int .i64 (X.size : Int)) ∧ Below w'.heap.size w' w'') := by
        intro w' h
        have := size_as (cp := cp) (hil h) X.arms.length rfl (by have := hin.2.2.2.2; omega)
        unfold insV at this
        rw [hNN] at this
        exact this
      unfold insV at henc
      rw [hNN] at henc
      obtain ⟨x0, x1, x2, x3, xf⟩ := own4 oX
      go_wp2_with fail
      refine Calls.mono henc ?_
      rintro e w3 ⟨v3, he3, r3, -, b3⟩
      rw [if_pos HOK.out] at he3
      subst he3
      obtain ⟨ae, ce, rfl, hle⟩ := row_lies r3 (enc_byte X hin.1) (by have := enc_small X; omega)
      replace hl1 := hl1.below b3
      replace hN1 := hN1.below b3
      replace oX := oX.below b3
      have HSIZE3 : Hid (∀ w', Below w3.heap.size w3 w' → Calls Tryd.prog 13 #[.agg #[.int .u8 N, .int .i64 X.a, .int .i64 X.b, .slice ao X.arms.length cp]] w' fun e w'' => e = .returned (.int .i64 (X.size : Int)) ∧ Below w'.heap.size w' w'') := fun w' h => HSIZE.out w' (b3.trans (h.mono b3.size))
      replace b1 := b1.trans (b3.mono b1.size)
      clear henc r3 hil harm x0 x1 x2 x3 xf HSIZE b3
      obtain ⟨SE, hSE⟩ : ∃ SE, strN X.enc = SE := ⟨_, rfl⟩
      have C1 : ∀ t : After w3, (convert 27 9 (.slice ae X.enc.length ce)).run Tryd.prog t.1 = .ok (.string SE) t.1 := fun t => by rw [← hSE]; exact conv_any (hle.below t.2) rfl
      have C2 : ∀ t : After w3, (convert 27 9 (.slice (some ⟨b, off + k, none⟩) (q - k) (cap - k))).run Tryd.prog t.1 = .ok (.string SE) t.1 := fun t => by
        rw [← hSE, strN_eq HE.out]
        exact conv_any ((hl1.below t.2).part k (q - k) HXL.out) HLEN.out.symm
      have CX : ∀ t : After w3, t.1.cell? ⟨w1.heap.size, 0, none⟩ = some (.int .u8 N) ∧ t.1.cell? ⟨w1.heap.size, 1, none⟩ = some (.int .i64 X.a) ∧ t.1.cell? ⟨w1.heap.size, 2, none⟩ = some (.int .i64 X.b) ∧ t.1.cell? ⟨w1.heap.size, 3, none⟩ = some (.slice ao X.arms.length cp) := fun t => by
        obtain ⟨k0, k1, k2, k3, -⟩ := own4 (oX.below t.2); exact ⟨k0, k1, k2, k3⟩
      have X0 := fun t => (CX t).1
      have X1 := fun t => (CX t).2.1
      have X2 := fun t => (CX t).2.2.1
      have X3 := fun t => (CX t).2.2.2
      have HN3 : Hid (NamesAt w3) := hN1
      clear CX hle hSE oX hN1 hl1
      obtain ⟨S, hS⟩ : ∃ S : Int, (X.size : Int) = S := ⟨_, rfl⟩
      rw [hS] at HSIZE3 HSZ
      have hSq : (q : Int) - (k : Int) = S := HSZ.out.symm
      clear hS HSZ
      have e1 : (k : Int) < (q : Int) := by omega
      have e2 : (q : Int) ≤ (L : Int) := by omega
      have e3 : (0 : Int) ≤ (k : Int) := by omega
      have e4 : (q : Int) ≤ (cap : Int) := by omega
      have e5 : ¬ cap - k = 0 := by omega
      have e6 : k ≤ q := by omega
      have e7 : q ≤ cap := by omega
      have e8 : k ≤ cap := by omega
      have HQ1 : Hid (∀ t : After w3, Calls Tryd.prog 13 #[.agg #[.int .u8 N, .int .i64 X.a, .int .i64 X.b, .slice ao X.arms.length cp]] t.1 fun e w'' => e = .returned (.int .i64 S) ∧ ∃ t' : After w3, w'' = t'.1) := fun t => quiet_new t (HSIZE3.out t.1 t.2)
      have HQ2 : Hid (∀ t : After w3, Calls Tryd.prog 9 #[] t.1 fun e w'' => e = .returned (.bool true) ∧ ∃ t' : After w3, w'' = t'.1) := fun t => quiet_new t (works_any (HN3.out.below t.2))
      clear HSIZE3 HXL HLEN HE hkq hql
      go_wp2_with fail
      refine wp_region_after (by kernel_rfl) (by kernel_rfl) ?_
      repeat (go_big_quiet_step (with_reducible exact rfl))
      go_big_quiet_step (exact HQ1.out _)
      repeat (go_big_quiet_step (with_reducible exact rfl))
      go_big_quiet_step (exact HQ2.out _)
      repeat (go_big_quiet_step (with_reducible exact rfl))
      refine wpQuiet_nil ?_
      intro _ hw'
      obtain ⟨t, rfl⟩ := hw'
      go_wp2
      go_ret
      exact ⟨rfl, b1.trans (t.2.mono b1.size)⟩
    · have hbad := dec_bad xs p (by rw [hd]; exact h0)
      rw [hd] at hbad
      obtain ⟨rfl, hq⟩ := Prod.mk.inj hbad
      obtain ⟨rfl, -⟩ := Prod.mk.inj hq
      have he : (((er : Nat) : Int) == 0) = false := by simp; omega
      clear hd hbad hq hl h1 h2 hp hL h0
      go_enter Tryd.func8, Tryd.ntmps8
      go_wp2_with fail
      refine hpick.mono ?_
      rintro e w0 ⟨rfl, rfl⟩
      clear hpick
      go_wp2_with fail
      refine Calls.mono hdec ?_
      rintro e w1 ⟨v, rfl, hrow, -, b1⟩
      have hr0 : Rw w1 46 2 v 0 [] := hrow
      obtain ⟨ao, cp, rfl, -⟩ := hr0.shape
      have hN1 := hN.below b1
      clear hdec hrow hr0
      have ez : insV zI (.slice ao (zI, 0, er).1.arms.length cp) = .agg #[.int .u8 0, .int .i64 0, .int .i64 0, .slice ao 0 cp] := rfl
      have ez2 : insV zI (.slice ao 0 cp) = .agg #[.int .u8 0, .int .i64 0, .int .i64 0, .slice ao 0 cp] := rfl
      simp only [ez2]
      have oX := Own.new w1 #[.int .u8 0, .int .i64 0, .int .i64 0, .slice ao 0 cp] 24
      have b2 := new_below w1 (.cells #[.int .u8 0, .int .i64 0, .int .i64 0, .slice ao 0 cp] 24)
      replace hN1 := hN1.below b2
      replace b1 := b1.trans (b2.mono b1.size)
      clear b2
      go_upto_region 5 with fail
      generalize w1.alloc (.cells #[.int .u8 0, .int .i64 0, .int .i64 0, .slice ao 0 cp] 24) = w2 at *
      obtain ⟨x0, x1, x2, x3, xf⟩ := own4 oX
      go_wp2_with fail
      refine (works_any hN1).mono ?_
      rintro e w3 ⟨rfl, b3⟩
      go_wp2
      go_ret
      exact ⟨rfl, b1.trans (b3.mono b1.size)⟩
end Go.Proofs.YtffnlcamobekoaaDoor
