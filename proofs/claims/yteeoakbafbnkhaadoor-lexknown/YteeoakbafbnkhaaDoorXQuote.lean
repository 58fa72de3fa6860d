/-
  CONTRACT of the landed lex's Quote.
-/
import Derived.Test.YteeoakbafbnkhaaDoorXBuild
import Derived.Test.YteeoakbafbnkhaaDoorQuote
import Derived.Lib.ConvBytes
namespace Go.Proofs.YteeoakbafbnkhaaDoor
open Go.RowKit
set_option linter.unusedVariables false

/-- The row of the text's bytes, which is only read. -/
def TextAt (W : World) (tb : Nat) (s : ByteArray) : Prop := ∃ (cs : Array Value) (fr : Nat × Nat), W.heap[tb]? = some (.cells cs 5 fr) ∧ fr ≠ (0, 0) ∧ ∀ j, j < s.size → cs[j]? = some (.int .u8 (((bytesN s).getD j 0 : Nat) : Int))
theorem TextAt.kept {W W' : World} {tb b : Nat} {s : ByteArray} (h : TextAt W tb s) (hk : Kept0 b W W') (hb : tb ≠ b) : TextAt W' tb s := by
  obtain ⟨cs, fr, h1, h2, h3⟩ := h
  exact ⟨cs, fr, hk tb cs 5 fr h1 hb (fun _ => h2), h2, h3⟩
theorem TextAt.cell {W : World} {tb : Nat} {s : ByteArray} (h : TextAt W tb s) (j c : Nat) (hj : j < s.size) (hc : (s[j]'hj).toNat = c) : W.cell? ⟨tb, j, none⟩ = some (.int .u8 (c : Int)) := by
  obtain ⟨cs, fr, h1, h2, h3⟩ := h
  rw [cell_of_row _ _ j _ _ _ h1, h3 j hj, List.getD_eq_getElem?_getD, bytesN_get s j hj, hc]; rfl
theorem TextAt.new (w : World) (s : ByteArray) : TextAt (Lib.bytesWorld w 5 s) w.heap.size s := by
  refine ⟨_, _, Lib.bytesWorld_at_new w 5 s, by simp, fun j hj => ?_⟩
  have h1 := Lib.bytesWorld_cell w 5 s j hj
  rw [cell_of_row _ _ j _ _ _ (Lib.bytesWorld_at_new w 5 s)] at h1
  have h2 : j < s.data.toList.length := by rw [Array.length_toList]; exact hj
  have e : (bytesN s).getD j 0 = (s.data.toList.getD j 0).toNat := by
    unfold bytesN
    rw [List.getD_eq_getElem?_getD, List.getD_eq_getElem?_getD, List.getElem?_map, List.getElem?_eq_getElem h2]; rfl
  rw [h1, e]
theorem app2 (a : List Nat) (x y : Nat) : a ++ [x, y] = (a ++ [x]) ++ [y] := by simp
theorem app4 (a : List Nat) (x y z u : Nat) : a ++ [x, y, z, u] = ((a ++ [x, y]) ++ [z]) ++ [u] := by simp
def qpre (s : ByteArray) (k : Nat) : List Nat := 34 :: ((bytesN s).take k).flatMap pieceN
theorem qpiece_len (c : Nat) : (pieceN c).length ≤ 4 := by
  unfold pieceN; split
  · simp
  · split
    · simp
    · split
      · simp
      · split
        · simp
        · split <;> simp
theorem qpre_len (s : ByteArray) (k : Nat) : (qpre s k).length ≤ 1 + 4 * s.size := by
  have h : ∀ l : List Nat, (l.flatMap pieceN).length ≤ 4 * l.length := by
    intro l
    induction l with
    | nil => simp
    | cons c r ih => rw [List.flatMap_cons, List.length_append, List.length_cons]; have := qpiece_len c; omega
  have h1 := h ((bytesN s).take k)
  have h2 : ((bytesN s).take k).length ≤ s.size := by rw [List.length_take, bytesN_length]; omega
  unfold qpre; rw [List.length_cons]; omega
theorem qpre_next (s : ByteArray) (k c : Nat) (h : k < s.size) (hc : (s[k]'h).toNat = c) : qpre s (k + 1) = qpre s k ++ pieceN c := by
  unfold qpre
  rw [take_next s k c h hc, List.flatMap_append]
  simp
theorem hexC_lt (d : Nat) (h : d < 16) : hexC d < 256 := by unfold hexC; split <;> omega
theorem piece_lt (c : Nat) (h : c < 256) : ∀ d ∈ pieceN c, d < 256 := by
  have h1 := hexC_lt (c / 16) (by omega)
  have h2 := hexC_lt (c % 16) (by omega)
  unfold pieceN
  intro d hd
  split at hd
  · simp at hd; omega
  · split at hd
    · simp at hd; omega
    · split at hd
      · simp at hd; omega
      · split at hd
        · simp at hd; omega
        · split at hd
          · simp at hd; omega
          · simp at hd; omega
theorem quote_lt (l : List Nat) (h : ∀ c ∈ l, c < 256) : ∀ c ∈ quoteN l, c < 256 := by
  intro c hc
  unfold quoteN at hc
  rcases List.mem_cons.1 hc with rfl | hc
  · omega
  · rcases List.mem_append.1 hc with hc | hc
    · obtain ⟨d, hd, hcd⟩ := List.mem_flatMap.1 hc
      exact piece_lt d (h d hd) c hcd
    · simp at hc; omega
def QRel (s : ByteArray) (w : World) (B tb : Nat) (i : Value) (wr : World) : Prop :=
  ∃ k : Nat, k ≤ s.size ∧ i = .int .i64 k ∧ Lib.IsBuilder 53 5 B B (nums (qpre s k)) wr ∧ Below B w wr ∧ TextAt wr tb s ∧ B ≤ wr.heap.size
set_option maxRecDepth 100000 in
set_option maxHeartbeats 4000000 in
theorem xquote_as (s : ByteArray) (X : ByteArray) (h : s.size ≤ 65536) (hX : strN (quoteN (bytesN s)) = X) (w : World) :
    Calls Tryd.prog 21 #[.string s] w fun e w' => e = .returned (.string X) ∧ Below w.heap.size w w' := by
  have HX : Hid (strN (quoteN (bytesN s)) = X) := hX
  clear hX
  obtain ⟨B, hB⟩ : ∃ B, B = w.heap.size := ⟨_, rfl⟩
  have HB : Hid (B = w.heap.size) := hB
  go_enter Tryd.func21, Tryd.ntmps21
  go_wp2_with fail
  have hfr := Lib.fresh_isBuilder 53 5 w
  have hbb : Below w.heap.size w (w.alloc (.cells #[.pointer none, .slice none 0 0] 53)) := (Below.refl _ _).alloc (Nat.le_refl _) _
  rw [← hB] at hfr hbb ⊢
  clear hB
  refine (bbyte_any B B [] 34 34 rfl _ hfr (by simp) (by rw [HB.out]; exact hbb.size)).mono ?_
  rintro e w1 ⟨rfl, hi1, hb1, hk1⟩
  have HI1 : Hid (Lib.IsBuilder 53 5 B B (nums [34]) w1) := hi1
  have HB1 : Hid (Below B w w1) := hbb.trans hb1
  have hs1 : B + 1 ≤ w1.heap.size := by
    have := hb1.size
    rw [World.size_alloc, ← HB.out] at this; exact this
  clear hfr hbb hi1 hb1 hk1
  have hcv := Lib.run_convert_string_bytes (P := Tryd.prog) w1 9 27 5 s (u := .string) Tryd.underlying9 Tryd.underlying27 Tryd.underlying5
  have hta := TextAt.new w1 s
  have hbw := Lib.bytesWorld_below w1 5 s
  obtain ⟨W1, hW1⟩ : ∃ W1, W1 = Lib.bytesWorld w1 5 s := ⟨_, rfl⟩
  obtain ⟨cap, hcap⟩ : ∃ cap, cap = grownCap w1 s.size 0 5 := ⟨_, rfl⟩
  obtain ⟨tb, htb⟩ : ∃ tb, tb = w1.heap.size := ⟨_, rfl⟩
  have HTB : Hid (tb ≠ B) := by unfold Hid; rw [htb]; omega
  have HI2 : Hid (Lib.IsBuilder 53 5 B B (nums [34]) W1) := by
    have hstep : ∀ p, Lib.BuilderAt 53 5 B B p (nums [34]) w1 → Lib.BuilderAt 53 5 B B p (nums [34]) W1 := by
      rintro p ⟨h1, v, h2, h3, h4⟩
      refine ⟨h1, v, ?_, ?_, h4⟩
      · rw [hW1, hbw.block B (by omega)]; exact h2
      · rw [hW1]
        refine ⟨h3.1, ?_⟩
        rcases h3.2 with hn | ⟨g, cap, cur, hv, hB', hg, rest⟩
        · exact .inl hn
        · exact .inr ⟨g, cap, cur, hv, hB', by rw [hbw.block g (Array.getElem?_eq_some_iff.1 hg).1]; exact hg, rest⟩
    rcases HI1.out with hq | hq
    · exact .inl (hstep _ hq)
    · exact .inr (hstep _ hq)
  have HB2 : Hid (Below B w W1) := by unfold Hid; rw [hW1]; exact HB1.out.trans (hbw.mono (by omega))
  have hs2 : B ≤ W1.heap.size := by rw [hW1]; exact Nat.le_trans (by omega) hbw.size
  rw [← hW1] at hcv hta
  rw [← htb] at hta
  rw [← hcap, ← htb] at hcv
  have HTA : Hid (TextAt W1 tb s) := hta
  clear hW1 hcap htb hta hbw HI1 HB1
  go_wp2_with fail
  go_loopw [10] (fun i wr => QRel s w B tb i wr) (fun i _ => s.size - (intOf i).toNat)
  case atStart => exact ⟨0, by omega, rfl, HI2.out, HB2.out, HTA.out, hs2⟩
  case round =>
    obtain ⟨k, hk, rfl, hib, hbel, hta, hsz⟩ := hrel
    have HI : Hid (Lib.IsBuilder 53 5 B B (nums (qpre s k)) wr) := hib
    have BL : Hid (Below B w wr) := hbel
    have HT : Hid (TextAt wr tb s) := hta
    have hql := qpre_len s k
    have HQL : Hid ((qpre s k).length ≤ 1 + 4 * s.size) := hql
    clear hib hbel
    by_cases hlt : k < s.size
    · obtain ⟨c, hc⟩ : ∃ c, (s[k]'hlt).toNat = c := ⟨_, rfl⟩
      have hcell := hta.cell k c hlt hc
      have hc256 : c < 256 := by rw [← hc]; exact UInt8.toNat_lt _
      have HN : Hid (qpre s (k + 1) = qpre s k ++ pieceN c) := qpre_next s k c hlt hc
      clear hta hql hc hcv
      have hq1 : (qpre s k).length + 8 ≤ 1048576 := by have := HQL.out; omega
      by_cases h34 : c = 34 ∨ c = 92
      · have HP : Hid (pieceN c = [92, c]) := by unfold Hid pieceN; rw [if_pos h34]
        rcases h34 with rfl | rfl
        all_goals
          go_wp2_with fail
          refine (bbyte_any B B (qpre s k) 92 92 rfl _ HI.out (by omega) hsz).mono ?_
          rintro e w2 ⟨rfl, hi2, hb2, hk2⟩
          go_wp2_with fail
          refine (bbyte_any B B (qpre s k ++ [92]) _ _ rfl _ hi2 (by rw [List.length_append]; simp; omega) (Nat.le_trans hsz hb2.size)).mono ?_
          rintro e w3 ⟨rfl, hi3, hb3, hk3⟩
          go_wp2
          go_roundw
          case rel => exact ⟨k + 1, by omega, by go_num, by rw [HN.out, HP.out, app2]; exact hi3, (BL.out.trans hb2).trans hb3, (HT.out.kept hk2 HTB.out).kept hk3 HTB.out, Nat.le_trans (Nat.le_trans hsz hb2.size) hb3.size⟩
          case measure => simp [intOf]; omega
      · have e1 : ((c : Int) == 34) = false := by simp; omega
        have e2 : ((c : Int) == 92) = false := by simp; omega
        by_cases hq10 : c = 10
        · subst hq10
          have HP : Hid (pieceN 10 = [92, 110]) := rfl
          clear h34 e1 e2
          go_wp2_with fail
          refine (bstring_any B B (qpre s k) ⟨#[92, 110]⟩ _ HI.out (by show _ + 2 ≤ _; omega) hsz).mono ?_
          rintro e w2 ⟨rfl, hi2, hb2, hk2⟩
          go_wp2
          go_roundw
          case rel => exact ⟨k + 1, by omega, by go_num, by rw [HN.out, HP.out]; exact hi2, BL.out.trans hb2, HT.out.kept hk2 HTB.out, Nat.le_trans hsz hb2.size⟩
          case measure => simp [intOf]; omega
        have f10 : ((c : Int) == 10) = false := by simp; omega
        by_cases hq9 : c = 9
        · subst hq9
          have HP : Hid (pieceN 9 = [92, 116]) := rfl
          clear h34 e1 e2
          go_wp2_with fail
          refine (bstring_any B B (qpre s k) ⟨#[92, 116]⟩ _ HI.out (by show _ + 2 ≤ _; omega) hsz).mono ?_
          rintro e w2 ⟨rfl, hi2, hb2, hk2⟩
          go_wp2
          go_roundw
          case rel => exact ⟨k + 1, by omega, by go_num, by rw [HN.out, HP.out]; exact hi2, BL.out.trans hb2, HT.out.kept hk2 HTB.out, Nat.le_trans hsz hb2.size⟩
          case measure => simp [intOf]; omega
        have f9 : ((c : Int) == 9) = false := by simp; omega
        by_cases hq13 : c = 13
        · subst hq13
          have HP : Hid (pieceN 13 = [92, 114]) := rfl
          clear h34 e1 e2
          go_wp2_with fail
          refine (bstring_any B B (qpre s k) ⟨#[92, 114]⟩ _ HI.out (by show _ + 2 ≤ _; omega) hsz).mono ?_
          rintro e w2 ⟨rfl, hi2, hb2, hk2⟩
          go_wp2
          go_roundw
          case rel => exact ⟨k + 1, by omega, by go_num, by rw [HN.out, HP.out]; exact hi2, BL.out.trans hb2, HT.out.kept hk2 HTB.out, Nat.le_trans hsz hb2.size⟩
          case measure => simp [intOf]; omega
        have f13 : ((c : Int) == 13) = false := by simp; omega
        have HKA : Hid (Kept0 B wr (wr.alloc (.cells #[.int .u8 4] 60))) := Kept0.of_below ((Below.refl _ _).alloc (Nat.le_refl _) _)
        have HBA : Hid (Below B wr (wr.alloc (.cells #[.int .u8 4] 60))) := (Below.refl _ _).alloc hsz _
        have HIA : Hid (Lib.IsBuilder 53 5 B B (nums (qpre s k)) (wr.alloc (.cells #[.int .u8 4] 60))) := by
          have hstep : ∀ p, Lib.BuilderAt 53 5 B B p (nums (qpre s k)) wr → Lib.BuilderAt 53 5 B B p (nums (qpre s k)) (wr.alloc (.cells #[.int .u8 4] 60)) := by
            rintro p ⟨h1, v, h2, h3, h4⟩
            exact ⟨h1, v, by rw [Below.heap_alloc wr _ B (Array.getElem?_eq_some_iff.1 h2).1]; exact h2, h3.alloc _, h4⟩
          rcases HI.out with hq | hq
          · exact .inl (hstep _ hq)
          · exact .inr (hstep _ hq)
        have hsA : B ≤ (wr.alloc (.cells #[.int .u8 4] 60)).heap.size := Nat.le_trans hsz HBA.out.size
        have HSA : Hid _ := hsA
        clear hsA
        by_cases hctl : endsB c = true
        · have HE : Hid (endsB c = true) := hctl
          have HP : Hid (pieceN c = [92, 120, hexC (c / 16), hexC (c % 16)]) := by
            unfold Hid pieceN
            rw [if_neg h34, if_neg hq10, if_neg hq9, if_neg hq13, if_pos (by simpa [endsB] using hctl)]
          clear hctl h34 hq10 hq9 hq13
          go_wp2_with fail
          refine (xis_any [4] wr.heap.size 1 c _ rfl (by omega) true (by rw [isB4]; exact HE.out) (kinds1 wr 4 (by omega) 4 rfl _)).mono ?_
          rintro e wx ⟨rfl, rfl⟩
          go_wp2_with fail
          refine (bstring_any B B (qpre s k) ⟨#[92, 120]⟩ _ HIA.out (by show _ + 2 ≤ _; omega) HSA.out).mono ?_
          rintro e w2 ⟨rfl, hi2, hb2, hk2⟩
          go_wp2_with fail
          refine (bbyte_any B B (qpre s k ++ [92, 120]) (hexC (c / 16)) _ (by rw [digit_at (c / 16) (by omega)]) _ hi2 (by rw [List.length_append]; show _ + 2 + 1 ≤ _; omega) (Nat.le_trans HSA.out hb2.size)).mono ?_
          rintro e w3 ⟨rfl, hi3, hb3, hk3⟩
          go_wp2_with fail
          refine (bbyte_any B B (qpre s k ++ [92, 120] ++ [hexC (c / 16)]) (hexC (c % 16)) _ (by rw [digit_at (c % 16) (by omega)]) _ hi3 (by rw [List.length_append, List.length_append]; show _ + 2 + 1 + 1 ≤ _; omega) (Nat.le_trans (Nat.le_trans HSA.out hb2.size) hb3.size)).mono ?_
          rintro e w4 ⟨rfl, hi4, hb4, hk4⟩
          go_wp2
          go_roundw
          case rel => exact ⟨k + 1, by omega, by go_num, by rw [HN.out, HP.out, app4]; exact hi4, (((BL.out.trans HBA.out).trans hb2).trans hb3).trans hb4, (((HT.out.kept HKA.out HTB.out).kept hk2 HTB.out).kept hk3 HTB.out).kept hk4 HTB.out, Nat.le_trans (Nat.le_trans (Nat.le_trans HSA.out hb2.size) hb3.size) hb4.size⟩
          case measure => simp [intOf]; omega
        · have HE : Hid (endsB c = false) := by simpa [Hid] using hctl
          have HP : Hid (pieceN c = [c]) := by
            unfold Hid pieceN
            rw [if_neg h34, if_neg hq10, if_neg hq9, if_neg hq13, if_neg (by simpa [endsB] using hctl)]
          clear hctl h34 hq10 hq9 hq13
          go_wp2_with fail
          refine (xis_any [4] wr.heap.size 1 c _ rfl (by omega) false (by rw [isB4]; exact HE.out) (kinds1 wr 4 (by omega) 4 rfl _)).mono ?_
          rintro e wx ⟨rfl, rfl⟩
          go_wp2_with fail
          refine (bbyte_any B B (qpre s k) c _ rfl _ HIA.out (by omega) HSA.out).mono ?_
          rintro e w2 ⟨rfl, hi2, hb2, hk2⟩
          go_wp2
          go_roundw
          case rel => exact ⟨k + 1, by omega, by go_num, by rw [HN.out, HP.out]; exact hi2, (BL.out.trans HBA.out).trans hb2, (HT.out.kept HKA.out HTB.out).kept hk2 HTB.out, Nat.le_trans HSA.out hb2.size⟩
          case measure => simp [intOf]; omega
    · have hks : k = s.size := by omega
      have HF : Hid (quoteN (bytesN s) = qpre s k ++ [34]) := by
        unfold Hid quoteN qpre
        rw [List.take_of_length_le (by rw [bytesN_length]; omega)]; rfl
      have HLT : Hid (∀ c ∈ qpre s k ++ [34], c < 256) := by
        unfold Hid; rw [← HF.out]; exact quote_lt _ (bytesN_lt s)
      have hq1 : (qpre s k).length + 8 ≤ 1048576 := by have := HQL.out; omega
      subst hks
      go_wp2_with fail
      refine (bbyte_any B B (qpre s s.size) 34 34 rfl _ HI.out (by omega) hsz).mono ?_
      rintro e w2 ⟨rfl, hi2, hb2, hk2⟩
      go_wp2_with fail
      refine (bout_any B B (qpre s s.size ++ [34]) HLT.out _ hi2 (Nat.le_trans hsz hb2.size)).mono ?_
      rintro e w3 ⟨rfl, hb3⟩
      go_wp2
      go_ret
      exact ⟨ret_str (by rw [← HF.out]; exact HX.out), by rw [← HB.out]; exact (BL.out.trans hb2).trans hb3⟩
end Go.Proofs.YteeoakbafbnkhaaDoor
