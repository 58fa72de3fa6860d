/-
  Texts joined: WordsWalk, BackWalk, TokLaw, NamesWalk, LiesKit.
-/
import Derived.Test.YteeoakbafbnkhaaDoorWorks
import Derived.Test.YteeoakbafbnkhaaDoorLawMath
import Derived.Deep.QuietTactic
import Derived.BigQuiet
import Derived.Deep.RegionWith
import Derived.Deep.RegionHeld3
import Derived.Deep.DeepCutAuto
import Derived.Deep.Cut

/-
  THE WALKS of LexWords and LexNames.
-/
namespace Go.Proofs.YteeoakbafbnkhaaDoor
open Go.RowKit
set_option linter.unusedVariables false

set_option maxRecDepth 100000 in
theorem lexWords_walk (s : ByteArray) (w : World) (hmax0 : s.size ≤ maxLen) (HL : Hid (Laid w)) : Calls Tryd.prog 10 #[.string s] w fun e w' => e = .returned (.bool true) ∧ Below w.heap.size w w' := by
  have hmax : s.size ≤ 9223372036854775807 := hmax0
  clear hmax0
  by_cases hbig : 8192 < s.size
  · go_enter Tryd.func10, Tryd.ntmps10
    go_wp2
    go_ret
    exact ⟨rfl, Below.refl _ _⟩
  · obtain ⟨X, hX⟩ : ∃ X, Hid (strN (quoteN (bytesN s)) = X) := ⟨_, rfl⟩
    obtain ⟨b, hb⟩ : ∃ b, Hid (nameB (bytesN s) = b) := ⟨_, rfl⟩
    obtain ⟨k, hk⟩ : ∃ b, Hid (keptB (bytesN s) = b) := ⟨_, rfl⟩
    have B0 : Hid (Below w.heap.size w w) := Below.refl _ _
    go_enter Tryd.func10, Tryd.ntmps10
    go_wp2_with fail
    refine (xquote_as s X (by omega) hX.out _).mono ?_
    rintro e w1 ⟨rfl, bel⟩
    have B1 : Hid (Below w.heap.size w w1) := below_chain B0.out bel (Nat.le_refl _)
    clear bel
    go_wp2_with fail
    refine (rquote_as s X (by omega) hX.out _).mono ?_
    rintro e w2 ⟨rfl, bel⟩
    have B2 : Hid (Below w.heap.size w w2) := below_chain B1.out bel (Nat.le_refl _)
    clear bel
    go_wp2_with fail
    refine (xname_as s b (by omega) hb.out _).mono ?_
    rintro e w3 ⟨rfl, bel⟩
    have B3 : Hid (Below w.heap.size w w3) := below_chain B2.out bel (Nat.le_refl _)
    clear bel
    go_wp2_with fail
    refine (rname_as s b (by omega) hb.out _).mono ?_
    rintro e w4 ⟨rfl, bel⟩
    have B4 : Hid (Below w.heap.size w w4) := below_chain B3.out bel (Nat.le_refl _)
    clear bel
    go_wp2_with fail
    refine (xkept_as s k hk.out _).mono ?_
    rintro e w5 ⟨rfl, bel⟩
    have B5 : Hid (Below w.heap.size w w5) := below_chain B4.out bel (Nat.le_refl _)
    clear bel
    go_wp2_with fail
    refine (rkept_as s k hk.out _).mono ?_
    rintro e w6 ⟨rfl, bel⟩
    have B6 : Hid (Below w.heap.size w w6) := below_chain B5.out bel (Nat.le_refl _)
    clear bel
    go_wp2_with fail
    refine (works_any _ (HL.out.on B6.out)).mono ?_
    rintro e w7 ⟨rfl, bel⟩
    go_wp2
    go_ret
    exact ⟨rfl, below_chain B6.out bel (Nat.le_refl _)⟩
end Go.Proofs.YteeoakbafbnkhaaDoor

/-
  THE WALK of LexBack.
-/
namespace Go.Proofs.YteeoakbafbnkhaaDoor
open Go.RowKit
set_option linter.unusedVariables false

theorem piece_byte (c : Nat) (h : c < 256) : ∀ d ∈ pieceN c, d < 256 := by
  have hx : ∀ d, d < 16 → hexC d < 256 := by intro d hd; unfold hexC; split <;> omega
  intro d hd
  unfold pieceN at hd
  split at hd
  · simp at hd; rcases hd with rfl | rfl <;> omega
  · split at hd
    · simp at hd; rcases hd with rfl | rfl <;> omega
    · split at hd
      · simp at hd; rcases hd with rfl | rfl <;> omega
      · split at hd
        · simp at hd; rcases hd with rfl | rfl <;> omega
        · split at hd
          · simp at hd
            have h1 := hx (c / 16) (by omega)
            have h2 := hx (c % 16) (by omega)
            rcases hd with rfl | rfl | rfl | rfl <;> omega
          · simp at hd; omega
theorem quote_byte (l : List Nat) (h : ∀ c ∈ l, c < 256) : ∀ d ∈ quoteN l, d < 256 := by
  intro d hd
  unfold quoteN at hd
  simp only [List.mem_cons, List.mem_append, List.mem_flatMap, List.not_mem_nil, or_false] at hd
  rcases hd with rfl | ⟨c, hc, hd⟩ | rfl
  · omega
  · exact piece_byte c (h c hc) d hd
  · omega
set_option maxRecDepth 100000 in
set_option maxHeartbeats 1000000 in
theorem lexBack_walk (s : ByteArray) (w : World) (hmax0 : s.size ≤ maxLen) (HL : Hid (Laid w)) : Calls Tryd.prog 11 #[.string s] w fun e w' => e = .returned (.bool true) ∧ Below w.heap.size w w' := by
  have hmax : s.size ≤ 9223372036854775807 := hmax0
  clear hmax0
  by_cases hbig : 8192 < s.size
  · go_enter Tryd.func11, Tryd.ntmps11
    go_wp2
    go_ret
    exact ⟨rfl, Below.refl _ _⟩
  · obtain ⟨X, hX⟩ : ∃ X, Hid (strN (quoteN (bytesN s)) = X) := ⟨_, rfl⟩
    have hb := bytesN_lt s
    have hl : (bytesN s).length ≤ 8192 := by rw [bytesN_length]; omega
    have hXB : bytesN X = quoteN (bytesN s) := by rw [← hX.out]; exact bytesN_strN _ (quote_byte _ hb)
    have hpl := pieces_len (bytesN s)
    have hql : (quoteN (bytesN s)).length = ((bytesN s).flatMap pieceN).length + 2 := by unfold quoteN; rw [List.length_cons, List.length_append]; rfl
    have hXs : X.size = ((bytesN s).flatMap pieceN).length + 2 := by rw [← bytesN_length, hXB, hql]
    have hX1 : 2 ≤ X.size := by omega
    have hX2 : X.size ≤ 65536 := by omega
    have HT : Hid (tokens (bytesN X) = .ok [(3, bytesN s, 0, 0, X.size)]) := by
      unfold Hid; rw [hXB, tokens_quote _ hb hl, hXs, hql]
    obtain ⟨Y, hY⟩ : ∃ Y, X.extract 0 (X.size - 1) = Y := ⟨_, rfl⟩
    have HT2 : Hid (tokens (bytesN Y) = .error (0, 31)) := by
      unfold Hid
      rw [← hY, bytesN_extract, List.drop_zero, hXB, hXs]
      have e : (quoteN (bytesN s)).take (((bytesN s).flatMap pieceN).length + 2 - 1 - 0) = 34 :: (bytesN s).flatMap pieceN := by
        unfold quoteN
        rw [show ((bytesN s).flatMap pieceN).length + 2 - 1 - 0 = ((bytesN s).flatMap pieceN).length + 1 by omega, List.take_succ_cons, List.take_left']
        rfl
      rw [e]; exact tokens_open _ hb hl
    have hYs : Y.size ≤ 1048576 := by rw [← hY, ByteArray.size_extract]; omega
    have hsub : ((X.size : Int) - 1).toNat = X.size - 1 := by omega
    have B0 : Hid (Below w.heap.size w w) := Below.refl _ _
    clear hb hl hXB hpl hql hXs
    go_enter Tryd.func11, Tryd.ntmps11
    go_wp2_with fail
    refine (xquote_as s X (by omega) hX.out _).mono ?_
    rintro e w1 ⟨rfl, bel⟩
    have B1 : Hid (Below w.heap.size w w1) := below_chain B0.out bel (Nat.le_refl _)
    clear bel
    go_wp2_with fail
    refine (tok_ok (by omega) _ HT.out (HL.out.on B1.out)).mono ?_
    rintro e w2 ⟨v, rfl, own, bel⟩
    have B2 : Hid (Below w.heap.size w w2) := below_chain B1.out bel (Nat.le_refl _)
    obtain ⟨ao, cap, rfl⟩ := own_form own
    have own' := own
    rcases own.2 with ⟨q, _⟩ | ⟨g, cap', cur, q, hB, hg, hle, hm, hs, ht⟩
    · simp at q
    · simp only [Value.slice.injEq] at q
      obtain ⟨rfl, _, rfl⟩ := q
      have c0 : w2.cell? ⟨g, 0, none⟩ = some (.int .u8 3) := own'.cellAt 0 (by simp)
      have c1 : w2.cell? ⟨g, 1, none⟩ = some (.string s) := by rw [own'.cellAt 1 (by simp)]; show some (Value.string (strN (bytesN s))) = _; rw [strN_bytesN]
      have c2 : w2.cell? ⟨g, 2, none⟩ = some (.int .u64 0) := own'.cellAt 2 (by simp)
      have c3 : w2.cell? ⟨g, 3, none⟩ = some (.int .i64 0) := own'.cellAt 3 (by simp)
      have c4 : w2.cell? ⟨g, 4, none⟩ = some (.int .i64 (X.size : Int)) := own'.cellAt 4 (by simp)
      clear own own' hg hle hm hs ht hB bel
      go_wp2_with fail
      refine (tok_no hYs 0 31 HT2.out (HL.out.on B2.out)).mono ?_
      rintro e w3 ⟨rfl, bel⟩
      have B3 : Hid (Below w.heap.size w w3) := below_chain B2.out bel (Nat.le_refl _)
      clear bel
      go_wp2_with fail
      refine (works_any _ (HL.out.on B3.out)).mono ?_
      rintro e w4 ⟨rfl, bel⟩
      go_wp2
      go_ret
      exact ⟨rfl, below_chain B3.out bel (Nat.le_refl _)⟩
end Go.Proofs.YteeoakbafbnkhaaDoor

/-
  THE WALK of LexTokens.
-/
namespace Go.Proofs.YteeoakbafbnkhaaDoor
open Go.RowKit
set_option linter.unusedVariables false

theorem TK_len : ∀ (N : Nat) (l : List Nat), l.length ≤ N → ∀ k at0 ts, TK k at0 l = .ok ts → ts.length ≤ l.length := by
  intro N
  induction N with
  | zero =>
    intro l hl k at0 ts h
    rcases TK_inv k at0 l ts h with ⟨rfl, he⟩ | ⟨kd, tx, n, len, rest, he, _, _, _, _⟩
    · simp
    · exfalso; apply he; exact List.drop_eq_nil_of_le (by omega)
  | succ N ih =>
    intro l hl k at0 ts h
    rcases TK_inv k at0 l ts h with ⟨rfl, he⟩ | ⟨kd, tx, n, len, rest, he, hk, ho, hr, rfl⟩
    · simp
    · have h1 := one_len _ _ _ _ _ ho
      rw [List.length_drop] at h1
      have h2 := ih (l.drop (blankN false l + len)) (by rw [List.length_drop]; omega) (k + 1) _ rest hr
      rw [List.length_drop] at h2
      rw [List.length_cons]; omega
theorem tokens_len (l : List Nat) (ts : List (Nat × List Nat × Nat × Nat × Nat)) (h : tokens l = .ok ts) : ts.length ≤ l.length := by
  unfold tokens at h
  split at h
  · cases h
  · exact TK_len l.length l (Nat.le_refl _) 0 0 ts h
theorem drewN_heap (w : World) (m : Nat) : (w.drewN m).heap = w.heap := by simp [World.drewN]
theorem lies_drew {w : World} {m : Nat} {ao : Option Addr} {ts : List (Nat × List Nat × Nat × Nat × Nat)} (h : TokLies w ao ts) : TokLies (w.drewN m) ao ts := by
  rcases h with h | ⟨b, rfl, h⟩
  · exact .inl h
  · exact .inr ⟨b, rfl, fun i hi => by rw [← h i hi]; simp⟩
theorem own_drew {w : World} {m B n : Nat} {v : Value} {xs : List Value} (h : w.ownsRow B 39 5 v n xs) : (w.drewN m).ownsRow B 39 5 v n xs := by
  refine ⟨h.1, ?_⟩
  rcases h.2 with hn | ⟨g, cap, cur, hv, hB, hg, rest⟩
  · exact .inl hn
  · exact .inr ⟨g, cap, cur, hv, hB, by rw [drewN_heap]; exact hg, rest⟩
theorem below_drewN {B : Nat} {w w1 : World} (h : Below B w w1) (m : Nat) : Below B w (w1.drewN m) := ⟨h.os, h.tape, h.output, by rw [drewN_heap]; exact h.size, fun k hk => by rw [drewN_heap]; exact h.block k hk⟩
theorem lies_grown {w w' : World} {o : Option Nat} {ao : Option Addr} {ts : List (Nat × List Nat × Nat × Nat × Nat)} (h : TokLies w ao ts) (hg : w.grownBy w' o) (hne : ∀ b, ao = some ⟨b, 0, none⟩ → some b ≠ o) (hlt : ∀ b, ao = some ⟨b, 0, none⟩ → b < w.heap.size) : TokLies w' ao ts := by
  rcases h with h | ⟨b, rfl, h⟩
  · exact .inl h
  · exact .inr ⟨b, rfl, fun i hi => (hg.cell_far ⟨b, i, none⟩ (hlt b rfl) (hne b rfl)).trans (h i hi)⟩
theorem own_block {w : World} {B n cap : Nat} {ao : Option Addr} {xs : List Value} (h : w.ownsRow B 39 5 (.slice ao n cap) n xs) : ∀ b, ao = some ⟨b, 0, none⟩ → B ≤ b ∧ b < w.heap.size := by
  intro b hb
  subst hb
  exact h.lt b rfl
theorem own_some {w : World} {B n cap : Nat} {ao : Option Addr} {xs : List Value} (h : w.ownsRow B 39 5 (.slice ao n cap) n xs) : (Value.slice ao n cap).ownBlock = none ∨ ∃ b, ao = some ⟨b, 0, none⟩ ∧ (Value.slice ao n cap).ownBlock = some b := by
  rcases h.2 with ⟨q, _⟩ | ⟨g, cap', cur, q, _⟩
  · simp only [Value.slice.injEq] at q; obtain ⟨rfl, _⟩ := q; exact .inl rfl
  · simp only [Value.slice.injEq] at q; obtain ⟨rfl, _⟩ := q; exact .inr ⟨g, rfl, rfl⟩
theorem rtok_ok {w : World} {s : ByteArray} (h : s.size ≤ 1048576) (ts : List (Nat × List Nat × Nat × Nat × Nat)) (ht : tokens (bytesN s) = .ok ts) :
    Calls Tryd.prog 16 #[.string s] w fun e w' => ∃ v, e = .returned (.tuple #[v, .int .i64 0, .int .i64 0]) ∧ w'.ownsRow w.heap.size 39 5 v ts.length (rowT ts) ∧ Below w.heap.size w w' := rtokens_any s h (.ok ts) ht w
theorem rtok_no {w : World} {s : ByteArray} (h : s.size ≤ 1048576) (p k : Nat) (ht : tokens (bytesN s) = .error (p, k)) :
    Calls Tryd.prog 16 #[.string s] w fun e w' => e = .returned (.tuple #[.slice none 0 0, .int .i64 (p : Int), .int .i64 (k : Int)]) ∧ Below w.heap.size w w' := rtokens_any s h (.error (p, k)) ht w
set_option maxRecDepth 100000 in
set_option maxHeartbeats 1000000 in
theorem lexTokens_ok (s : ByteArray) (hbig : ¬ 8192 < s.size) (ts : List (Nat × List Nat × Nat × Nat × Nat)) (HT : Hid (tokens (bytesN s) = .ok ts)) (w : World) (HL : Hid (Laid w)) : Calls Tryd.prog 8 #[.string s] w fun e w' => e = .returned (.bool true) ∧ Below w.heap.size w w' := by
  have hlen := tokens_len _ _ HT.out
  rw [bytesN_length] at hlen
  obtain ⟨n, hn⟩ : ∃ n, Hid (ts.length = n) := ⟨_, rfl⟩
  have hn2 : n ≤ 8192 := by rw [← hn.out]; omega
  clear hlen
  go_enter Tryd.func8, Tryd.ntmps8
  go_wp2_with fail
  refine (tok_ok (by omega) ts HT.out HL.out).mono ?_
  rintro e w1 ⟨va, rfl, ownA, bel1⟩
  rw [hn.out] at ownA
  obtain ⟨aa, ca, rfl⟩ := own_form ownA
  have OA : Hid (w1.ownsRow w.heap.size 39 5 (.slice aa n ca) n (rowT ts)) := ownA
  have B1 : Hid (Below w.heap.size w w1) := bel1
  clear ownA bel1
  go_wp2_with fail
  refine (tok_ok (by omega) ts HT.out (HL.out.on B1.out)).mono ?_
  rintro e w2 ⟨vb, rfl, ownB, bel2⟩
  rw [hn.out] at ownB
  obtain ⟨ab, cb, rfl⟩ := own_form ownB
  have OB : Hid (w2.ownsRow w1.heap.size 39 5 (.slice ab n cb) n (rowT ts)) := ownB
  have B2 : Hid (Below w1.heap.size w1 w2) := bel2
  clear ownB bel2
  go_wp2_with fail
  refine (rtok_ok (by omega) ts HT.out).mono ?_
  rintro e w3 ⟨vc, rfl, ownC, bel3⟩
  rw [hn.out] at ownC
  obtain ⟨ac, cc, rfl⟩ := own_form ownC
  have OC : Hid (w3.ownsRow w2.heap.size 39 5 (.slice ac n cc) n (rowT ts)) := ownC
  have OB3 : Hid (w3.ownsRow w1.heap.size 39 5 (.slice ab n cb) n (rowT ts)) := own_kept OB.out bel3
  have OA3 : Hid (w3.ownsRow w.heap.size 39 5 (.slice aa n ca) n (rowT ts)) := own_kept (own_kept OA.out B2.out) bel3
  have B3 : Hid (Below w.heap.size w w3) := below_chain (below_chain B1.out B2.out (Nat.le_refl _)) bel3 (Nat.le_refl _)
  have S1 : Hid (w.heap.size ≤ w1.heap.size ∧ w1.heap.size ≤ w2.heap.size ∧ w2.heap.size ≤ w3.heap.size) := ⟨B1.out.size, B2.out.size, bel3.size⟩
  have LA : Hid (TokLies w3 aa ts) := lies_own OA3.out hn.out
  have LB : Hid (TokLies w3 ab ts) := lies_own OB3.out hn.out
  have LC : Hid (TokLies w3 ac ts) := lies_own OC.out hn.out
  clear ownC bel3
  go_wp2_with fail
  refine (same_as w3 aa ac ca cc n ts hn.out (by omega) LA.out LC.out).mono ?_
  rintro e w4 ⟨rfl, m1, hm1⟩
  subst hm1
  go_wp2_with fail
  refine (same_as _ ab ac cb cc n ts hn.out (by omega) (lies_drew LB.out) (lies_drew LC.out)).mono ?_
  rintro e w5 ⟨rfl, m2, hm2⟩
  obtain ⟨m, hm⟩ : ∃ m, w5 = w3.drewN m := ⟨m1 + m2, by rw [hm2]; simp⟩
  clear hm2
  subst hm
  go_wp2_with fail
  refine (spoil_as _ w.heap.size n _ _ (own_drew OA3.out) (by rw [drewN_heap]; have := S1.out; omega) (by omega)).mono ?_
  rintro e w6 ⟨rfl, gr⟩
  have hne : ∀ b c : Nat, aa = some ⟨b, 0, none⟩ → (ab = some ⟨c, 0, none⟩ ∨ ac = some ⟨c, 0, none⟩) → b < c := by
    intro b c h1 h2
    have q1 := own_block OA.out b h1
    rcases h2 with h2 | h2
    · have q2 := own_block OB.out c h2; omega
    · have q2 := own_block OC.out c h2; have := S1.out; omega
  have hnb : ∀ c, (ab = some ⟨c, 0, none⟩ ∨ ac = some ⟨c, 0, none⟩) → some c ≠ (Value.slice aa n ca).ownBlock := by
    intro c hc q
    rcases own_some OA.out with h0 | ⟨b, h1, h2⟩
    · rw [h0] at q; cases q
    · rw [h2] at q; cases q; have := hne c c h1 hc; omega
  have LB6 : Hid (TokLies w6 ab ts) := lies_grown (lies_drew LB.out) gr (fun b h => hnb b (.inl h)) (fun b h => by rw [drewN_heap]; exact (own_block OB3.out b h).2)
  have LC6 : Hid (TokLies w6 ac ts) := lies_grown (lies_drew LC.out) gr (fun b h => hnb b (.inr h)) (fun b h => by rw [drewN_heap]; exact (own_block OC.out b h).2)
  have B6 : Hid (Below w.heap.size w w6) := (below_drewN B3.out m).grown gr (by rw [drewN_heap]; have := S1.out; omega) (fun k hk => (OA3.out.lt k hk).1)
  clear gr hne hnb
  go_wp2_with fail
  refine (same_as _ ab ac cb cc n ts hn.out (by omega) LB6.out LC6.out).mono ?_
  rintro e w7 ⟨rfl, m3, hm3⟩
  subst hm3
  go_wp2_with fail
  refine (works_any _ (HL.out.on (below_drewN B6.out m3))).mono ?_
  rintro e w8 ⟨rfl, bel8⟩
  go_wp2
  go_ret
  exact ⟨rfl, below_chain (below_drewN B6.out m3) bel8 (Nat.le_refl _)⟩
set_option maxRecDepth 100000 in
set_option maxHeartbeats 1000000 in
theorem lexTokens_no (s : ByteArray) (hbig : ¬ 8192 < s.size) (p k : Nat) (HT : Hid (tokens (bytesN s) = .error (p, k))) (w : World) (HL : Hid (Laid w)) : Calls Tryd.prog 8 #[.string s] w fun e w' => e = .returned (.bool true) ∧ Below w.heap.size w w' := by
  go_enter Tryd.func8, Tryd.ntmps8
  go_wp2_with fail
  refine (tok_no (by omega) p k HT.out HL.out).mono ?_
  rintro e w1 ⟨rfl, bel1⟩
  have B1 : Hid (Below w.heap.size w w1) := bel1
  clear bel1
  go_wp2_with fail
  refine (tok_no (by omega) p k HT.out (HL.out.on B1.out)).mono ?_
  rintro e w2 ⟨rfl, bel2⟩
  have B2 : Hid (Below w.heap.size w w2) := below_chain B1.out bel2 (Nat.le_refl _)
  clear bel2
  go_wp2_with fail
  refine (rtok_no (by omega) p k HT.out).mono ?_
  rintro e w3 ⟨rfl, bel3⟩
  have B3 : Hid (Below w.heap.size w w3) := below_chain B2.out bel3 (Nat.le_refl _)
  clear bel3
  go_wp2_with fail
  refine (same_none w3 none none 0 0).mono ?_
  rintro e w4 ⟨rfl, m1, hm1⟩
  subst hm1
  go_wp2_with fail
  refine (same_none _ none none 0 0).mono ?_
  rintro e w5 ⟨rfl, m2, hm2⟩
  obtain ⟨m, hm⟩ : ∃ m, w5 = w3.drewN m := ⟨m1 + m2, by rw [hm2]; simp⟩
  clear hm2
  subst hm
  go_wp2_with fail
  refine (spoil_none _).mono ?_
  rintro e w6 ⟨rfl, gr⟩
  have B6 : Hid (Below w.heap.size w w6) := (below_drewN B3.out m).grown gr (by rw [drewN_heap]; exact B3.out.size) (fun k hk => by cases hk)
  clear gr
  go_wp2_with fail
  refine (same_none _ none none 0 0).mono ?_
  rintro e w7 ⟨rfl, m3, hm3⟩
  subst hm3
  go_wp2_with fail
  refine (works_any _ (HL.out.on (below_drewN B6.out m3))).mono ?_
  rintro e w8 ⟨rfl, bel8⟩
  go_wp2
  go_ret
  exact ⟨rfl, below_chain (below_drewN B6.out m3) bel8 (Nat.le_refl _)⟩
set_option maxRecDepth 100000 in
theorem lexTokens_walk (s : ByteArray) (w : World) (hmax0 : s.size ≤ maxLen) (HL : Hid (Laid w)) : Calls Tryd.prog 8 #[.string s] w fun e w' => e = .returned (.bool true) ∧ Below w.heap.size w w' := by
  have hmax : s.size ≤ 9223372036854775807 := hmax0
  clear hmax0
  by_cases hbig : 8192 < s.size
  · go_enter Tryd.func8, Tryd.ntmps8
    go_wp2
    go_ret
    exact ⟨rfl, Below.refl _ _⟩
  · cases h : tokens (bytesN s) with
    | ok ts => exact lexTokens_ok s hbig ts h w HL
    | error x => obtain ⟨p, k⟩ := x; exact lexTokens_no s hbig p k h w HL
end Go.Proofs.YteeoakbafbnkhaaDoor

/-
  THE WALK of LexNames.
-/
namespace Go.Proofs.YteeoakbafbnkhaaDoor
open Go.RowKit
set_option linter.unusedVariables false

theorem TK_errk : ∀ (N : Nat) (l : List Nat), l.length ≤ N → ∀ k at0 p e, TK k at0 l = .error (p, e) → 3 ≤ e := by
  intro N
  induction N with
  | zero =>
    intro l hl k at0 p e h
    rw [TK_end k at0 l (List.drop_eq_nil_of_le (by omega))] at h; cases h
  | succ N ih =>
    intro l hl k at0 p e h
    by_cases he : l.drop (blankN false l) = []
    · rw [TK_end k at0 l he] at h; cases h
    · by_cases hk : k = 32768
      · rw [TK_limit k at0 l he hk] at h; cases h; omega
      · cases ho : oneN (l.drop (blankN false l)) with
        | error x =>
          obtain ⟨q, e'⟩ := x
          rw [TK_err k at0 l q e' he hk ho] at h; cases h
          have := one_err _ _ _ ho
          omega
        | ok x =>
          obtain ⟨kd, tx, n, len⟩ := x
          have h1 := one_len _ _ _ _ _ ho
          rw [List.length_drop] at h1
          rw [TK_ok k at0 l kd tx n len he hk ho] at h
          cases hr : TK (k + 1) (at0 + blankN false l + len) (l.drop (blankN false l + len)) with
          | error x =>
            rw [hr] at h; cases h
            exact ih _ (by rw [List.length_drop]; omega) _ _ _ _ hr
          | ok rest => rw [hr] at h; cases h
theorem tokens_errk (l : List Nat) (p e : Nat) (h : tokens l = .error (p, e)) : 3 ≤ e := by
  unfold tokens at h
  split at h
  · cases h; omega
  · exact TK_errk l.length l (Nat.le_refl _) 0 0 p e h
theorem word_lt (c : Nat) (h : wordB c = true) : c < 256 := by
  simp [wordB, letterB, digitB] at h; omega
theorem tokens_name1 (l : List Nat) (tx : List Nat) (n a b : Nat) (h : tokens l = .ok [(1, tx, n, a, b)]) : ∀ c ∈ tx, c < 256 := by
  unfold tokens at h
  split at h
  · cases h
  · rcases TK_inv 0 0 l _ h with ⟨q, _⟩ | ⟨kd, tx', n', len, rest, _, _, ho, _, q⟩
    · cases q
    · cases q
      obtain ⟨c, r, _, _, rfl⟩ := one_kind1 _ _ _ _ ho
      intro c hc
      exact word_lt c (takeWhile_mem wordB _ c hc)

set_option maxRecDepth 100000 in
set_option maxHeartbeats 1000000 in
theorem lexNames_err (s : ByteArray) (hbig : ¬ 8192 < s.size) (p k : Nat) (HT : Hid (tokens (bytesN s) = .error (p, k))) (hk0 : ((k : Int) == 0) = false) (HN : Hid (nameB (bytesN s) = false)) (HK : Hid (keptB (bytesN s) = false)) (w : World) (HL : Hid (Laid w)) : Calls Tryd.prog 12 #[.string s] w fun e w' => e = .returned (.bool true) ∧ Below w.heap.size w w' := by
  go_enter Tryd.func12, Tryd.ntmps12
  go_wp2_with fail
  refine (tok_no (by omega) p k HT.out HL.out).mono ?_
  rintro e w2 ⟨rfl, bel⟩
  have B2 : Hid (Below w.heap.size w w2) := bel
  clear bel
  go_wp2_with fail
  refine (xname_as s false (by omega) HN.out _).mono ?_
  rintro e w3 ⟨rfl, bel⟩
  have B3 : Hid (Below w.heap.size w w3) := below_chain B2.out bel (Nat.le_refl _)
  clear bel
  go_wp2_with fail
  refine (xkept_as s false HK.out _).mono ?_
  rintro e w4 ⟨rfl, bel⟩
  have B4 : Hid (Below w.heap.size w w4) := below_chain B3.out bel (Nat.le_refl _)
  clear bel
  go_wp2_with fail
  refine (works_any _ (HL.out.on B4.out)).mono ?_
  rintro e w5 ⟨rfl, bel⟩
  go_wp2
  go_ret
  exact ⟨rfl, below_chain B4.out bel (Nat.le_refl _)⟩
set_option maxRecDepth 100000 in
set_option maxHeartbeats 1000000 in
theorem lexNames_many (s : ByteArray) (hbig : ¬ 8192 < s.size) (ts : List (Nat × List Nat × Nat × Nat × Nat)) (n : Nat) (hn : Hid (ts.length = n)) (HT : Hid (tokens (bytesN s) = .ok ts)) (hn1 : ((n : Int) == 1) = false) (HN : Hid (nameB (bytesN s) = false)) (HK : Hid (keptB (bytesN s) = false)) (w : World) (HL : Hid (Laid w)) : Calls Tryd.prog 12 #[.string s] w fun e w' => e = .returned (.bool true) ∧ Below w.heap.size w w' := by
  go_enter Tryd.func12, Tryd.ntmps12
  go_wp2_with fail
  refine (tok_ok (by omega) ts HT.out HL.out).mono ?_
  rintro e w2 ⟨v, rfl, own, bel⟩
  have B2 : Hid (Below w.heap.size w w2) := bel
  rw [hn.out] at own
  obtain ⟨ao, cap, rfl⟩ := own_form own
  clear bel own
  go_wp2_with fail
  refine (xname_as s false (by omega) HN.out _).mono ?_
  rintro e w3 ⟨rfl, bel⟩
  have B3 : Hid (Below w.heap.size w w3) := below_chain B2.out bel (Nat.le_refl _)
  clear bel
  go_wp2_with fail
  refine (xkept_as s false HK.out _).mono ?_
  rintro e w4 ⟨rfl, bel⟩
  have B4 : Hid (Below w.heap.size w w4) := below_chain B3.out bel (Nat.le_refl _)
  clear bel
  go_wp2_with fail
  refine (works_any _ (HL.out.on B4.out)).mono ?_
  rintro e w5 ⟨rfl, bel⟩
  go_wp2
  go_ret
  exact ⟨rfl, below_chain B4.out bel (Nat.le_refl _)⟩
set_option maxRecDepth 100000 in
set_option maxHeartbeats 1000000 in
theorem lexNames_kind (s : ByteArray) (hbig : ¬ 8192 < s.size) (kd : Nat) (tx : List Nat) (n a b : Nat) (X : ByteArray) (HX : Hid (strN tx = X)) (HT : Hid (tokens (bytesN s) = .ok [(kd, tx, n, a, b)])) (hkd : ((kd : Int) == 1) = false) (HN : Hid (nameB (bytesN s) = false)) (HK : Hid (keptB (bytesN s) = false)) (w : World) (HL : Hid (Laid w)) : Calls Tryd.prog 12 #[.string s] w fun e w' => e = .returned (.bool true) ∧ Below w.heap.size w w' := by
  go_enter Tryd.func12, Tryd.ntmps12
  go_wp2_with fail
  refine (tok_ok (by omega) [(kd, tx, n, a, b)] HT.out HL.out).mono ?_
  rintro e w2 ⟨v, rfl, own, bel⟩
  have B2 : Hid (Below w.heap.size w w2) := bel
  obtain ⟨ao, cap, rfl⟩ := own_form own
  have own' := own
  rcases own.2 with ⟨q, _⟩ | ⟨g, cap', cur, q, hB, hg, hle, hm, hs, ht⟩
  · simp at q
  simp only [Value.slice.injEq] at q
  obtain ⟨rfl, _, rfl⟩ := q
  have c0 : w2.cell? ⟨g, 0, none⟩ = some (.int .u8 (kd : Int)) := own'.cellAt 0 (by simp)
  have c1 : w2.cell? ⟨g, 1, none⟩ = some (.string X) := by rw [own'.cellAt 1 (by simp), ← HX.out]; rfl
  clear own own' hg hle hm hs ht hB bel
  go_wp2_with fail
  refine (xname_as s false (by omega) HN.out _).mono ?_
  rintro e w3 ⟨rfl, bel⟩
  have B3 : Hid (Below w.heap.size w w3) := below_chain B2.out bel (Nat.le_refl _)
  clear bel
  go_wp2_with fail
  refine (xkept_as s false HK.out _).mono ?_
  rintro e w4 ⟨rfl, bel⟩
  have B4 : Hid (Below w.heap.size w w4) := below_chain B3.out bel (Nat.le_refl _)
  clear bel
  go_wp2_with fail
  refine (works_any _ (HL.out.on B4.out)).mono ?_
  rintro e w5 ⟨rfl, bel⟩
  go_wp2
  go_ret
  exact ⟨rfl, below_chain B4.out bel (Nat.le_refl _)⟩
set_option maxRecDepth 100000 in
set_option maxHeartbeats 1000000 in
theorem lexNames_text (s : ByteArray) (hbig : ¬ 8192 < s.size) (kd : Nat) (tx : List Nat) (n a b : Nat) (X : ByteArray) (HX : Hid (strN tx = X)) (HT : Hid (tokens (bytesN s) = .ok [(kd, tx, n, a, b)])) (hkd : ((kd : Int) == 1) = true) (hx : (X.toList == s.toList) = false) (HN : Hid (nameB (bytesN s) = false)) (HK : Hid (keptB (bytesN s) = false)) (w : World) (HL : Hid (Laid w)) : Calls Tryd.prog 12 #[.string s] w fun e w' => e = .returned (.bool true) ∧ Below w.heap.size w w' := by
  go_enter Tryd.func12, Tryd.ntmps12
  go_wp2_with fail
  refine (tok_ok (by omega) [(kd, tx, n, a, b)] HT.out HL.out).mono ?_
  rintro e w2 ⟨v, rfl, own, bel⟩
  have B2 : Hid (Below w.heap.size w w2) := bel
  obtain ⟨ao, cap, rfl⟩ := own_form own
  have own' := own
  rcases own.2 with ⟨q, _⟩ | ⟨g, cap', cur, q, hB, hg, hle, hm, hs, ht⟩
  · simp at q
  simp only [Value.slice.injEq] at q
  obtain ⟨rfl, _, rfl⟩ := q
  have c0 : w2.cell? ⟨g, 0, none⟩ = some (.int .u8 (kd : Int)) := own'.cellAt 0 (by simp)
  have c1 : w2.cell? ⟨g, 1, none⟩ = some (.string X) := by rw [own'.cellAt 1 (by simp), ← HX.out]; rfl
  clear own own' hg hle hm hs ht hB bel
  go_wp2_with fail
  refine (xname_as s false (by omega) HN.out _).mono ?_
  rintro e w3 ⟨rfl, bel⟩
  have B3 : Hid (Below w.heap.size w w3) := below_chain B2.out bel (Nat.le_refl _)
  clear bel
  go_wp2_with fail
  refine (xkept_as s false HK.out _).mono ?_
  rintro e w4 ⟨rfl, bel⟩
  have B4 : Hid (Below w.heap.size w w4) := below_chain B3.out bel (Nat.le_refl _)
  clear bel
  go_wp2_with fail
  refine (works_any _ (HL.out.on B4.out)).mono ?_
  rintro e w5 ⟨rfl, bel⟩
  go_wp2
  go_ret
  exact ⟨rfl, below_chain B4.out bel (Nat.le_refl _)⟩
set_option maxRecDepth 100000 in
set_option maxHeartbeats 1000000 in
theorem lexNames_kept (s : ByteArray) (hbig : ¬ 8192 < s.size) (kd : Nat) (tx : List Nat) (n a b : Nat) (X : ByteArray) (HX : Hid (strN tx = X)) (HT : Hid (tokens (bytesN s) = .ok [(kd, tx, n, a, b)])) (hkd : ((kd : Int) == 1) = true) (hx : (X.toList == s.toList) = true) (HN : Hid (nameB (bytesN s) = false)) (HK : Hid (keptB (bytesN s) = true)) (w : World) (HL : Hid (Laid w)) : Calls Tryd.prog 12 #[.string s] w fun e w' => e = .returned (.bool true) ∧ Below w.heap.size w w' := by
  go_enter Tryd.func12, Tryd.ntmps12
  go_wp2_with fail
  refine (tok_ok (by omega) [(kd, tx, n, a, b)] HT.out HL.out).mono ?_
  rintro e w2 ⟨v, rfl, own, bel⟩
  have B2 : Hid (Below w.heap.size w w2) := bel
  obtain ⟨ao, cap, rfl⟩ := own_form own
  have own' := own
  rcases own.2 with ⟨q, _⟩ | ⟨g, cap', cur, q, hB, hg, hle, hm, hs, ht⟩
  · simp at q
  simp only [Value.slice.injEq] at q
  obtain ⟨rfl, _, rfl⟩ := q
  have c0 : w2.cell? ⟨g, 0, none⟩ = some (.int .u8 (kd : Int)) := own'.cellAt 0 (by simp)
  have c1 : w2.cell? ⟨g, 1, none⟩ = some (.string X) := by rw [own'.cellAt 1 (by simp), ← HX.out]; rfl
  clear own own' hg hle hm hs ht hB bel
  go_wp2_with fail
  refine (xname_as s false (by omega) HN.out _).mono ?_
  rintro e w3 ⟨rfl, bel⟩
  have B3 : Hid (Below w.heap.size w w3) := below_chain B2.out bel (Nat.le_refl _)
  clear bel
  go_wp2_with fail
  refine (xkept_as s true HK.out _).mono ?_
  rintro e w4 ⟨rfl, bel⟩
  have B4 : Hid (Below w.heap.size w w4) := below_chain B3.out bel (Nat.le_refl _)
  clear bel
  go_wp2_with fail
  refine (xkept_as s true HK.out _).mono ?_
  rintro e w5 ⟨rfl, bel⟩
  have B5 : Hid (Below w.heap.size w w5) := below_chain B4.out bel (Nat.le_refl _)
  clear bel
  go_wp2_with fail
  refine (works_any _ (HL.out.on B5.out)).mono ?_
  rintro e w6 ⟨rfl, bel⟩
  go_wp2
  go_ret
  exact ⟨rfl, below_chain B5.out bel (Nat.le_refl _)⟩
set_option maxRecDepth 100000 in
set_option maxHeartbeats 1000000 in
theorem lexNames_name (s : ByteArray) (hbig : ¬ 8192 < s.size) (kd : Nat) (tx : List Nat) (n a b : Nat) (X : ByteArray) (HX : Hid (strN tx = X)) (HT : Hid (tokens (bytesN s) = .ok [(kd, tx, n, a, b)])) (hkd : ((kd : Int) == 1) = true) (hx : (X.toList == s.toList) = true) (HN : Hid (nameB (bytesN s) = true)) (HK : Hid (keptB (bytesN s) = false)) (w : World) (HL : Hid (Laid w)) : Calls Tryd.prog 12 #[.string s] w fun e w' => e = .returned (.bool true) ∧ Below w.heap.size w w' := by
  go_enter Tryd.func12, Tryd.ntmps12
  go_wp2_with fail
  refine (tok_ok (by omega) [(kd, tx, n, a, b)] HT.out HL.out).mono ?_
  rintro e w2 ⟨v, rfl, own, bel⟩
  have B2 : Hid (Below w.heap.size w w2) := bel
  obtain ⟨ao, cap, rfl⟩ := own_form own
  have own' := own
  rcases own.2 with ⟨q, _⟩ | ⟨g, cap', cur, q, hB, hg, hle, hm, hs, ht⟩
  · simp at q
  simp only [Value.slice.injEq] at q
  obtain ⟨rfl, _, rfl⟩ := q
  have c0 : w2.cell? ⟨g, 0, none⟩ = some (.int .u8 (kd : Int)) := own'.cellAt 0 (by simp)
  have c1 : w2.cell? ⟨g, 1, none⟩ = some (.string X) := by rw [own'.cellAt 1 (by simp), ← HX.out]; rfl
  clear own own' hg hle hm hs ht hB bel
  go_wp2_with fail
  refine (xname_as s true (by omega) HN.out _).mono ?_
  rintro e w3 ⟨rfl, bel⟩
  have B3 : Hid (Below w.heap.size w w3) := below_chain B2.out bel (Nat.le_refl _)
  clear bel
  go_wp2_with fail
  refine (xkept_as s false HK.out _).mono ?_
  rintro e w4 ⟨rfl, bel⟩
  have B4 : Hid (Below w.heap.size w w4) := below_chain B3.out bel (Nat.le_refl _)
  clear bel
  go_wp2_with fail
  refine (xkept_as s false HK.out _).mono ?_
  rintro e w5 ⟨rfl, bel⟩
  have B5 : Hid (Below w.heap.size w w5) := below_chain B4.out bel (Nat.le_refl _)
  clear bel
  go_wp2_with fail
  refine (works_any _ (HL.out.on B5.out)).mono ?_
  rintro e w6 ⟨rfl, bel⟩
  go_wp2
  go_ret
  exact ⟨rfl, below_chain B5.out bel (Nat.le_refl _)⟩
theorem lexNames_walk (s : ByteArray) (w : World) (hmax0 : s.size ≤ maxLen) (HL : Hid (Laid w)) : Calls Tryd.prog 12 #[.string s] w fun e w' => e = .returned (.bool true) ∧ Below w.heap.size w w' := by
  have hmax : s.size ≤ 9223372036854775807 := hmax0
  clear hmax0
  by_cases hbig : 8192 < s.size
  · go_enter Tryd.func12, Tryd.ntmps12
    go_wp2
    go_ret
    exact ⟨rfl, Below.refl _ _⟩
  · have hone := isOne_wordy (bytesN s) (by rw [bytesN_length]; omega)
    have hnm := name_is (bytesN s)
    have hkw := kept_wordy (bytesN s)
    have hC : isOne (tokens (bytesN s)) (bytesN s) = false → nameB (bytesN s) = false ∧ keptB (bytesN s) = false := by
      intro h
      rw [hone] at h
      refine ⟨by rw [hnm, h]; rfl, ?_⟩
      cases hk : keptB (bytesN s) with
      | false => rfl
      | true => rw [hkw hk] at h; cases h
    cases h : tokens (bytesN s) with
    | error x =>
      obtain ⟨p, k⟩ := x
      rw [h] at hC
      obtain ⟨h1, h2⟩ := hC rfl
      exact lexNames_err s hbig p k h (by have := tokens_errk _ _ _ h; simp; omega) h1 h2 w HL
    | ok ts =>
      match ts, h with
      | [], h =>
        rw [h] at hC
        obtain ⟨h1, h2⟩ := hC rfl
        exact lexNames_many s hbig [] 0 rfl h rfl h1 h2 w HL
      | t :: u :: r, h =>
        rw [h] at hC
        obtain ⟨h1, h2⟩ := hC rfl
        exact lexNames_many s hbig (t :: u :: r) _ rfl h (by simp; omega) h1 h2 w HL
      | [(kd, tx, n, a, b)], h =>
        rw [h] at hC hone
        by_cases hk : kd = 1
        · have hkd : ((kd : Int) == 1) = true := by simp [hk]
          have hb : ∀ c ∈ tx, c < 256 := tokens_name1 (bytesN s) tx n a b (by rw [h, hk])
          by_cases ht : tx = bytesN s
          · have hx : ((strN tx).toList == s.toList) = true := by rw [ht, strN_bytesN]; simp
            have hw : wordyB (bytesN s) = true := by rw [← hone]; simp [isOne, hk, ht]
            cases hq : keptB (bytesN s) with
            | true => exact lexNames_kept s hbig kd tx n a b _ rfl h hkd hx (by unfold Hid; rw [hnm, hw, hq]; rfl) hq w HL
            | false => exact lexNames_name s hbig kd tx n a b _ rfl h hkd hx (by unfold Hid; rw [hnm, hw, hq]; rfl) hq w HL
          · obtain ⟨h1, h2⟩ := hC (by simp [isOne, ht])
            refine lexNames_text s hbig kd tx n a b _ rfl h hkd ?_ h1 h2 w HL
            rw [bytes_same, bytesN_strN _ hb]; simp [ht]
        · obtain ⟨h1, h2⟩ := hC (by simp [isOne, hk])
          exact lexNames_kind s hbig kd tx n a b _ rfl h (by simp; omega) h1 h2 w HL
end Go.Proofs.YteeoakbafbnkhaaDoor

/-
  THE WALK of LexLies.
-/
namespace Go.Proofs.YteeoakbafbnkhaaDoor
open Go.RowKit
set_option linter.unusedVariables false

def endAt (at0 : Nat) (ts : List (Nat × List Nat × Nat × Nat × Nat)) : Nat → Nat
  | 0 => at0
  | k + 1 => (ts.getD k default).2.2.2.2
theorem chain_at (bound : Nat) : ∀ (ts : List (Nat × List Nat × Nat × Nat × Nat)) (at0 : Nat), chain bound at0 ts → ∀ k, k < ts.length →
    endAt at0 ts k ≤ (ts.getD k default).2.2.2.1 ∧ (ts.getD k default).2.2.2.1 < (ts.getD k default).2.2.2.2 ∧ (ts.getD k default).2.2.2.2 ≤ bound := by
  intro ts
  induction ts with
  | nil => intro at0 _ k hk; simp at hk
  | cons t r ih =>
    intro at0 h k hk
    obtain ⟨h1, h2, h3, h4⟩ := h
    cases k with
    | zero => exact ⟨h1, h2, h3⟩
    | succ k =>
      have := ih _ h4 k (by simpa using hk)
      cases k with
      | zero => exact this
      | succ k => exact this
theorem lies_at (s : ByteArray) (hs : s.size ≤ 8192) (ts : List (Nat × List Nat × Nat × Nat × Nat)) (h : tokens (bytesN s) = .ok ts) (k : Nat) (hk : k < ts.length) :
    ∃ kd tx nn A E, ts.getD k default = (kd, tx, nn, A, E) ∧ endAt 0 ts k ≤ A ∧ A < E ∧ E ≤ s.size ∧ tokens (bytesN (s.extract A E)) = .ok [(kd, tx, nn, 0, E - A)] ∧ endAt 0 ts (k + 1) = E := by
  have hl : (bytesN s).length ≤ 8192 := by rw [bytesN_length]; exact hs
  unfold tokens at h
  rw [if_neg (by omega)] at h
  have hc := chain_at _ _ _ (TK_chain _ _ (Nat.le_refl _) _ _ _ h) k hk
  have he : ts.getD k default = ts[k] := by rw [List.getD_eq_getElem?_getD, List.getElem?_eq_getElem hk]; rfl
  obtain ⟨len, q1, q2, q3⟩ := TK_alone _ _ (Nat.le_refl _) (by omega) _ _ _ h ts[k] (List.getElem_mem hk)
  rw [← he] at q1 q2 q3
  obtain ⟨⟨kd, tx, nn, A, E⟩, hq⟩ : ∃ q, ts.getD k default = q := ⟨_, rfl⟩
  rw [hq] at hc q1 q2 q3
  simp only at hc q1 q2 q3
  refine ⟨kd, tx, nn, A, E, hq, hc.1, hc.2.1, by rw [bytesN_length] at hc; omega, ?_, by show (ts.getD k default).2.2.2.2 = E; rw [hq]⟩
  rw [bytesN_extract, show E - A = len by omega]
  rw [Nat.sub_zero] at q3
  exact q3
theorem lies_place (s : ByteArray) (ts : List (Nat × List Nat × Nat × Nat × Nat)) (K : Nat) : placeOf 0 (bytesN s) ts K = if K < ts.length then (ts.getD K default).2.2.2.1 else s.size := by
  unfold placeOf
  split
  · rename_i t h
    have hk : K < ts.length := by
      rcases Nat.lt_or_ge K ts.length with q | q
      · exact q
      · rw [List.getElem?_eq_none q] at h; cases h
    rw [if_pos hk, List.getD_eq_getElem?_getD, h]; rfl
  · rename_i h
    rw [if_neg (by rw [List.getElem?_eq_none_iff] at h; omega), bytesN_length]
theorem lies_shift (ts : List (Nat × List Nat × Nat × Nat × Nat)) (K d i : Nat) (hi : i < ts.length) (hK : K ≤ ts.length) :
    (ts.take K ++ (ts.drop K).map (shiftK d)).getD i default = if K ≤ i then shiftK d (ts.getD i default) else ts.getD i default := by
  rw [List.getD_eq_getElem?_getD, List.getD_eq_getElem?_getD, List.getElem?_eq_getElem hi]
  split
  · rename_i h
    rw [List.getElem?_append_right (by rw [List.length_take]; omega), List.length_take, List.getElem?_map, List.getElem?_drop, show K + (i - min K ts.length) = i by omega, List.getElem?_eq_getElem hi]; rfl
  · rename_i h
    rw [List.getElem?_append_left (by rw [List.length_take]; omega), List.getElem?_take, if_pos (by omega), List.getElem?_eq_getElem hi]
set_option maxRecDepth 100000 in
set_option maxHeartbeats 1000000 in
theorem lexLies_no (s : ByteArray) (cut kind : Int) (hbig : ¬ 8192 < s.size) (p k : Nat) (HT : Hid (tokens (bytesN s) = .error (p, k))) (hk0 : ((k : Int) == 0) = false) (hp : p ≤ s.size) (w : World) (HL : Hid (Laid w)) : Calls Tryd.prog 13 #[.string s, .int .i64 cut, .int .i64 kind] w fun e w' => e = .returned (.bool true) ∧ Below w.heap.size w w' := by
  go_enter Tryd.func13, Tryd.ntmps13
  go_wp2_with fail
  refine (tok_no (by omega) p k HT.out HL.out).mono ?_
  rintro e w1 ⟨rfl, bel1⟩
  have B1 : Hid (Below w.heap.size w w1) := bel1
  clear bel1
  go_wp2_with fail
  refine (works_any _ (HL.out.on B1.out)).mono ?_
  rintro e w8 ⟨rfl, bel8⟩
  go_wp2
  go_ret
  exact ⟨rfl, below_chain B1.out bel8 (Nat.le_refl _)⟩

theorem tok_one {w : World} {s : ByteArray} (h : s.size ≤ 1048576) (kd : Nat) (tx : List Nat) (nn len : Nat) (X : ByteArray) (hX : strN tx = X) (ht : tokens (bytesN s) = .ok [(kd, tx, nn, 0, len)]) (hL : Laid w) :
    Calls Tryd.prog 15 #[.string s] w fun e w' => ∃ g cap, e = .returned (.tuple #[.slice (some ⟨g, 0, none⟩) 1 cap, .int .i64 0, .int .i64 0]) ∧ w'.cell? ⟨g, 0, none⟩ = some (.int .u8 (kd : Int)) ∧ w'.cell? ⟨g, 1, none⟩ = some (.string X) ∧ w'.cell? ⟨g, 2, none⟩ = some (.int .u64 (nn : Int)) ∧ Below w.heap.size w w' := by
  refine (tok_ok h _ ht hL).mono ?_
  rintro e w3 ⟨v3, rfl, own3, bel3⟩
  obtain ⟨ao, cap, rfl⟩ := own_form own3
  have own' := own3
  rcases own3.2 with ⟨q, _⟩ | ⟨g, cap', cur, q, _⟩
  · simp at q
  simp only [Value.slice.injEq] at q
  obtain ⟨rfl, _, rfl⟩ := q
  exact ⟨g, cap, rfl, own'.cellAt 0 (by simp), by rw [own'.cellAt 1 (by simp), ← hX]; rfl, own'.cellAt 2 (by simp), bel3⟩
def BlOk (bl : ByteArray) : Prop := insB (bytesN bl) ∧ bl.size ≤ 7
theorem bl0 : BlOk ⟨#[32]⟩ := ⟨ins_four.1, by decide⟩
theorem bl1 : BlOk ⟨#[10]⟩ := ⟨ins_four.2.1, by decide⟩
theorem bl2 : BlOk ⟨#[9, 32, 47, 47, 32, 120, 10]⟩ := ⟨ins_four.2.2.1, by decide⟩
theorem bl3 : BlOk ⟨#[13, 47, 47, 10]⟩ := ⟨ins_four.2.2.2, by decide⟩
theorem bytesN_app (a b : ByteArray) : bytesN (a ++ b) = bytesN a ++ bytesN b := by
  unfold bytesN; simp
theorem lies_ins (s bl : ByteArray) (hs : s.size ≤ 8192) (hbl : BlOk bl) (ts : List (Nat × List Nat × Nat × Nat × Nat)) (h : tokens (bytesN s) = .ok ts) (K P : Nat) (hK : K ≤ ts.length) (hP : placeOf 0 (bytesN s) ts K = P) (hPs : P ≤ s.size) :
    tokens (bytesN (s.extract 0 P ++ bl ++ s.extract P s.size)) = .ok (ts.take K ++ (ts.drop K).map (shiftK bl.size)) := by
  have h1 := tokens_ins (bytesN bl) hbl.1 (by rw [bytesN_length]; exact hbl.2) (bytesN s) (by rw [bytesN_length]; exact hs) ts h K hK
  rw [hP, bytesN_length] at h1
  rw [bytesN_app, bytesN_app, bytesN_extract, bytesN_extract, List.drop_zero, Nat.sub_zero, List.append_assoc, List.take_of_length_le (l := (bytesN s).drop P) (by rw [List.length_drop, bytesN_length]; omega)]
  exact h1
theorem tok_ins {w : World} {s : ByteArray} (h : s.size ≤ 1048576) (ts : List (Nat × List Nat × Nat × Nat × Nat)) (k : Nat) (hk : ts.length = k) (ht : tokens (bytesN s) = .ok ts) (hL : Laid w) :
    Calls Tryd.prog 15 #[.string s] w fun e w' => ∃ am cm, e = .returned (.tuple #[.slice am k cm, .int .i64 0, .int .i64 0]) ∧ TokLies w' am ts ∧ (∀ b, am = some ⟨b, 0, none⟩ → b < w'.heap.size) ∧ Below w.heap.size w w' := by
  refine (tok_ok h _ ht hL).mono ?_
  rintro e w3 ⟨v3, rfl, own3, bel3⟩
  rw [hk] at own3
  obtain ⟨ao, cap, rfl⟩ := own_form own3
  exact ⟨ao, cap, rfl, lies_own own3 hk, fun b hb => (own_block own3 b hb).2, bel3⟩
def LiesRel (w1 : World) (n : Nat) (ts : List (Nat × List Nat × Nat × Nat × Nat)) (e i : Value) (wr : World) : Prop := ∃ k : Nat, k ≤ n ∧ i = .int .i64 k ∧ e = .int .i64 ((endAt 0 ts k : Nat) : Int) ∧ Below w1.heap.size w1 wr
def LiesRel2 (w1 : World) (n : Nat) (i : Value) (wr : World) : Prop := ∃ k : Nat, k ≤ n ∧ i = .int .i64 k ∧ Below w1.heap.size w1 wr
theorem lies_ins2 (s bl : ByteArray) (D : Nat) (hD : bl.size = D) (hs : s.size ≤ 8192) (hbl : BlOk bl) (ts : List (Nat × List Nat × Nat × Nat × Nat)) (h : tokens (bytesN s) = .ok ts) (K P : Nat) (hK : K ≤ ts.length) (hP : placeOf 0 (bytesN s) ts K = P) (hPs : P ≤ s.size) :
    tokens (bytesN (s.extract 0 P ++ bl ++ s.extract P s.size)) = .ok (ts.take K ++ (ts.drop K).map (shiftK D)) := by
  rw [← hD]; exact lies_ins s bl hs hbl ts h K P hK hP hPs
end Go.Proofs.YteeoakbafbnkhaaDoor
