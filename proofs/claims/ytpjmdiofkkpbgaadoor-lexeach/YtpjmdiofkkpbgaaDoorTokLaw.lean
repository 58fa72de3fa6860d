/-
  THE WALK of LexTokens.
-/
import Derived.Test.YtpjmdiofkkpbgaaDoorWorks
import Derived.Test.YtpjmdiofkkpbgaaDoorLiesMath
namespace Go.Proofs.YtpjmdiofkkpbgaaDoor
open Go.RowKit
set_option linter.unusedVariables false

theorem TK_len : ∀ (N : Nat) (l : List Nat), l.length ≤ N → ∀ k at0 ts, TK k at0 l = .ok ts → ts.length ≤ l.length := by
  intro N
  induction N with
  | zero =>
    intro l hl k at0 ts h
    rcases TK_inv k at0 l ts h with ⟨rfl, he⟩ | ⟨kd, tx, n, len, rest, he, _, _, _, _⟩
    · simp
    · exfalso; apply he; exact List.drop_eq_nil_of_le (by omega)
  | succ N ih =>
    intro l hl k at0 ts h
    rcases TK_inv k at0 l ts h with ⟨rfl, he⟩ | ⟨kd, tx, n, len, rest, he, hk, ho, hr, rfl⟩
    · simp
    · have h1 := one_len _ _ _ _ _ ho
      rw [List.length_drop] at h1
      have h2 := ih (l.drop (blankN false l + len)) (by rw [List.length_drop]; omega) (k + 1) _ rest hr
      rw [List.length_drop] at h2
      rw [List.length_cons]; omega
theorem tokens_len (l : List Nat) (ts : List (Nat × List Nat × Nat × Nat × Nat)) (h : tokens l = .ok ts) : ts.length ≤ l.length := by
  unfold tokens at h
  split at h
  · cases h
  · exact TK_len l.length l (Nat.le_refl _) 0 0 ts h
theorem drewN_heap (w : World) (m : Nat) : (w.drewN m).heap = w.heap := by simp [World.drewN]
theorem lies_drew {w : World} {m : Nat} {ao : Option Addr} {ts : List (Nat × List Nat × Nat × Nat × Nat)} (h : TokLies w ao ts) : TokLies (w.drewN m) ao ts := by
  rcases h with h | ⟨b, rfl, h⟩
  · exact .inl h
  · exact .inr ⟨b, rfl, fun i hi => by rw [← h i hi]; simp⟩
theorem own_drew {w : World} {m B n : Nat} {v : Value} {xs : List Value} (h : w.ownsRow B 35 5 v n xs) : (w.drewN m).ownsRow B 35 5 v n xs := by
  refine ⟨h.1, ?_⟩
  rcases h.2 with hn | ⟨g, cap, cur, hv, hB, hg, rest⟩
  · exact .inl hn
  · exact .inr ⟨g, cap, cur, hv, hB, by rw [drewN_heap]; exact hg, rest⟩
theorem below_drewN {B : Nat} {w w1 : World} (h : Below B w w1) (m : Nat) : Below B w (w1.drewN m) := ⟨h.os, h.tape, h.output, by rw [drewN_heap]; exact h.size, fun k hk => by rw [drewN_heap]; exact h.block k hk⟩
theorem lies_grown {w w' : World} {o : Option Nat} {ao : Option Addr} {ts : List (Nat × List Nat × Nat × Nat × Nat)} (h : TokLies w ao ts) (hg : w.grownBy w' o) (hne : ∀ b, ao = some ⟨b, 0, none⟩ → some b ≠ o) (hlt : ∀ b, ao = some ⟨b, 0, none⟩ → b < w.heap.size) : TokLies w' ao ts := by
  rcases h with h | ⟨b, rfl, h⟩
  · exact .inl h
  · exact .inr ⟨b, rfl, fun i hi => (hg.cell_far ⟨b, i, none⟩ (hlt b rfl) (hne b rfl)).trans (h i hi)⟩
theorem own_block {w : World} {B n cap : Nat} {ao : Option Addr} {xs : List Value} (h : w.ownsRow B 35 5 (.slice ao n cap) n xs) : ∀ b, ao = some ⟨b, 0, none⟩ → B ≤ b ∧ b < w.heap.size := by
  intro b hb
  subst hb
  exact h.lt b rfl
theorem own_some {w : World} {B n cap : Nat} {ao : Option Addr} {xs : List Value} (h : w.ownsRow B 35 5 (.slice ao n cap) n xs) : (Value.slice ao n cap).ownBlock = none ∨ ∃ b, ao = some ⟨b, 0, none⟩ ∧ (Value.slice ao n cap).ownBlock = some b := by
  rcases h.2 with ⟨q, _⟩ | ⟨g, cap', cur, q, _⟩
  · simp only [Value.slice.injEq] at q; obtain ⟨rfl, _⟩ := q; exact .inl rfl
  · simp only [Value.slice.injEq] at q; obtain ⟨rfl, _⟩ := q; exact .inr ⟨g, rfl, rfl⟩
theorem rtok_ok {w : World} {s : ByteArray} (h : s.size ≤ 1048576) (ts : List (Nat × List Nat × Nat × Nat × Nat)) (ht : tokens (bytesN s) = .ok ts) :
    Calls Tryd.prog 10 #[.string s] w fun e w' => ∃ v, e = .returned (.tuple #[v, .int .i64 0, .int .i64 0]) ∧ w'.ownsRow w.heap.size 35 5 v ts.length (rowT ts) ∧ Below w.heap.size w w' := rtokens_any s h (.ok ts) ht w
theorem rtok_no {w : World} {s : ByteArray} (h : s.size ≤ 1048576) (p k : Nat) (ht : tokens (bytesN s) = .error (p, k)) :
    Calls Tryd.prog 10 #[.string s] w fun e w' => e = .returned (.tuple #[.slice none 0 0, .int .i64 (p : Int), .int .i64 (k : Int)]) ∧ Below w.heap.size w w' := rtokens_any s h (.error (p, k)) ht w
set_option maxRecDepth 100000 in
set_option maxHeartbeats 1000000 in
theorem lexTokens_ok (s : ByteArray) (hbig : ¬ 8192 < s.size) (ts : List (Nat × List Nat × Nat × Nat × Nat)) (HT : Hid (tokens (bytesN s) = .ok ts)) (w : World) (HL : Hid (Laid w)) : Calls Tryd.prog 3 #[.string s] w fun e w' => e = .returned (.bool true) ∧ Below w.heap.size w w' := by
  have hlen := tokens_len _ _ HT.out
  rw [bytesN_length] at hlen
  obtain ⟨n, hn⟩ : ∃ n, Hid (ts.length = n) := ⟨_, rfl⟩
  have hn2 : n ≤ 8192 := by rw [← hn.out]; omega
  clear hlen
  go_enter Tryd.func3, Tryd.ntmps3
  go_wp2_with fail
  refine (tok_ok (by omega) ts HT.out HL.out).mono ?_
  rintro e w1 ⟨va, rfl, ownA, bel1⟩
  rw [hn.out] at ownA
  obtain ⟨aa, ca, rfl⟩ := own_form ownA
  have OA : Hid (w1.ownsRow w.heap.size 35 5 (.slice aa n ca) n (rowT ts)) := ownA
  have B1 : Hid (Below w.heap.size w w1) := bel1
  clear ownA bel1
  go_wp2_with fail
  refine (tok_ok (by omega) ts HT.out (HL.out.on B1.out)).mono ?_
  rintro e w2 ⟨vb, rfl, ownB, bel2⟩
  rw [hn.out] at ownB
  obtain ⟨ab, cb, rfl⟩ := own_form ownB
  have OB : Hid (w2.ownsRow w1.heap.size 35 5 (.slice ab n cb) n (rowT ts)) := ownB
  have B2 : Hid (Below w1.heap.size w1 w2) := bel2
  clear ownB bel2
  go_wp2_with fail
  refine (rtok_ok (by omega) ts HT.out).mono ?_
  rintro e w3 ⟨vc, rfl, ownC, bel3⟩
  rw [hn.out] at ownC
  obtain ⟨ac, cc, rfl⟩ := own_form ownC
  have OC : Hid (w3.ownsRow w2.heap.size 35 5 (.slice ac n cc) n (rowT ts)) := ownC
  have OB3 : Hid (w3.ownsRow w1.heap.size 35 5 (.slice ab n cb) n (rowT ts)) := own_kept OB.out bel3
  have OA3 : Hid (w3.ownsRow w.heap.size 35 5 (.slice aa n ca) n (rowT ts)) := own_kept (own_kept OA.out B2.out) bel3
  have B3 : Hid (Below w.heap.size w w3) := below_chain (below_chain B1.out B2.out (Nat.le_refl _)) bel3 (Nat.le_refl _)
  have S1 : Hid (w.heap.size ≤ w1.heap.size ∧ w1.heap.size ≤ w2.heap.size ∧ w2.heap.size ≤ w3.heap.size) := ⟨B1.out.size, B2.out.size, bel3.size⟩
  have LA : Hid (TokLies w3 aa ts) := lies_own OA3.out hn.out
  have LB : Hid (TokLies w3 ab ts) := lies_own OB3.out hn.out
  have LC : Hid (TokLies w3 ac ts) := lies_own OC.out hn.out
  clear ownC bel3
  go_wp2_with fail
  refine (same_as w3 aa ac ca cc n ts hn.out (by omega) LA.out LC.out).mono ?_
  rintro e w4 ⟨rfl, m1, hm1⟩
  subst hm1
  go_wp2_with fail
  refine (same_as _ ab ac cb cc n ts hn.out (by omega) (lies_drew LB.out) (lies_drew LC.out)).mono ?_
  rintro e w5 ⟨rfl, m2, hm2⟩
  obtain ⟨m, hm⟩ : ∃ m, w5 = w3.drewN m := ⟨m1 + m2, by rw [hm2]; simp⟩
  clear hm2
  subst hm
  go_wp2_with fail
  refine (spoil_as _ w.heap.size n _ _ (own_drew OA3.out) (by rw [drewN_heap]; have := S1.out; omega) (by omega)).mono ?_
  rintro e w6 ⟨rfl, gr⟩
  have hne : ∀ b c : Nat, aa = some ⟨b, 0, none⟩ → (ab = some ⟨c, 0, none⟩ ∨ ac = some ⟨c, 0, none⟩) → b < c := by
    intro b c h1 h2
    have q1 := own_block OA.out b h1
    rcases h2 with h2 | h2
    · have q2 := own_block OB.out c h2; omega
    · have q2 := own_block OC.out c h2; have := S1.out; omega
  have hnb : ∀ c, (ab = some ⟨c, 0, none⟩ ∨ ac = some ⟨c, 0, none⟩) → some c ≠ (Value.slice aa n ca).ownBlock := by
    intro c hc q
    rcases own_some OA.out with h0 | ⟨b, h1, h2⟩
    · rw [h0] at q; cases q
    · rw [h2] at q; cases q; have := hne c c h1 hc; omega
  have LB6 : Hid (TokLies w6 ab ts) := lies_grown (lies_drew LB.out) gr (fun b h => hnb b (.inl h)) (fun b h => by rw [drewN_heap]; exact (own_block OB3.out b h).2)
  have LC6 : Hid (TokLies w6 ac ts) := lies_grown (lies_drew LC.out) gr (fun b h => hnb b (.inr h)) (fun b h => by rw [drewN_heap]; exact (own_block OC.out b h).2)
  have B6 : Hid (Below w.heap.size w w6) := (below_drewN B3.out m).grown gr (by rw [drewN_heap]; have := S1.out; omega) (fun k hk => (OA3.out.lt k hk).1)
  clear gr hne hnb
  go_wp2_with fail
  refine (same_as _ ab ac cb cc n ts hn.out (by omega) LB6.out LC6.out).mono ?_
  rintro e w7 ⟨rfl, m3, hm3⟩
  subst hm3
  go_wp2_with fail
  refine (works_any _ (HL.out.on (below_drewN B6.out m3))).mono ?_
  rintro e w8 ⟨rfl, bel8⟩
  go_wp2
  go_ret
  exact ⟨rfl, below_chain (below_drewN B6.out m3) bel8 (Nat.le_refl _)⟩
set_option maxRecDepth 100000 in
set_option maxHeartbeats 1000000 in
theorem lexTokens_no (s : ByteArray) (hbig : ¬ 8192 < s.size) (p k : Nat) (HT : Hid (tokens (bytesN s) = .error (p, k))) (w : World) (HL : Hid (Laid w)) : Calls Tryd.prog 3 #[.string s] w fun e w' => e = .returned (.bool true) ∧ Below w.heap.size w w' := by
  go_enter Tryd.func3, Tryd.ntmps3
  go_wp2_with fail
  refine (tok_no (by omega) p k HT.out HL.out).mono ?_
  rintro e w1 ⟨rfl, bel1⟩
  have B1 : Hid (Below w.heap.size w w1) := bel1
  clear bel1
  go_wp2_with fail
  refine (tok_no (by omega) p k HT.out (HL.out.on B1.out)).mono ?_
  rintro e w2 ⟨rfl, bel2⟩
  have B2 : Hid (Below w.heap.size w w2) := below_chain B1.out bel2 (Nat.le_refl _)
  clear bel2
  go_wp2_with fail
  refine (rtok_no (by omega) p k HT.out).mono ?_
  rintro e w3 ⟨rfl, bel3⟩
  have B3 : Hid (Below w.heap.size w w3) := below_chain B2.out bel3 (Nat.le_refl _)
  clear bel3
  go_wp2_with fail
  refine (same_none w3 none none 0 0).mono ?_
  rintro e w4 ⟨rfl, m1, hm1⟩
  subst hm1
  go_wp2_with fail
  refine (same_none _ none none 0 0).mono ?_
  rintro e w5 ⟨rfl, m2, hm2⟩
  obtain ⟨m, hm⟩ : ∃ m, w5 = w3.drewN m := ⟨m1 + m2, by rw [hm2]; simp⟩
  clear hm2
  subst hm
  go_wp2_with fail
  refine (spoil_none _).mono ?_
  rintro e w6 ⟨rfl, gr⟩
  have B6 : Hid (Below w.heap.size w w6) := (below_drewN B3.out m).grown gr (by rw [drewN_heap]; exact B3.out.size) (fun k hk => by cases hk)
  clear gr
  go_wp2_with fail
  refine (same_none _ none none 0 0).mono ?_
  rintro e w7 ⟨rfl, m3, hm3⟩
  subst hm3
  go_wp2_with fail
  refine (works_any _ (HL.out.on (below_drewN B6.out m3))).mono ?_
  rintro e w8 ⟨rfl, bel8⟩
  go_wp2
  go_ret
  exact ⟨rfl, below_chain (below_drewN B6.out m3) bel8 (Nat.le_refl _)⟩
set_option maxRecDepth 100000 in
theorem lexTokens_walk (s : ByteArray) (w : World) (hmax0 : s.size ≤ maxLen) (HL : Hid (Laid w)) : Calls Tryd.prog 3 #[.string s] w fun e w' => e = .returned (.bool true) ∧ Below w.heap.size w w' := by
  have hmax : s.size ≤ 9223372036854775807 := hmax0
  clear hmax0
  by_cases hbig : 8192 < s.size
  · go_enter Tryd.func3, Tryd.ntmps3
    go_wp2
    go_ret
    exact ⟨rfl, Below.refl _ _⟩
  · cases h : tokens (bytesN s) with
    | ok ts => exact lexTokens_ok s hbig ts h w HL
    | error x => obtain ⟨p, k⟩ := x; exact lexTokens_no s hbig p k h w HL
end Go.Proofs.YtpjmdiofkkpbgaaDoor
