/-
  CONTRACTS of the landed lex's Tokens, Kept, Name.
-/
import Derived.Test.YteeoakbafbnkhaaDoorXTokens
import Derived.Test.YteeoakbafbnkhaaDoorKept
namespace Go.Proofs.YteeoakbafbnkhaaDoor
open Go.RowKit
set_option linter.unusedVariables false

theorem xtokens_any (s : ByteArray) (h : s.size ≤ 1048576) (TT : Except (Nat × Nat) (List (Nat × List Nat × Nat × Nat × Nat))) (HTT : Hid (tokens (bytesN s) = TT)) (w : World) (hL : Laid w) :
    Calls Tryd.prog 15 #[.string s] w fun e w' => TokGives w TT e w' := by
  by_cases hbig : 65536 < s.size
  · have HX : Hid (TT = .error (0, 3)) := by unfold Hid; rw [← HTT.out]; unfold tokens; rw [if_pos (by rw [bytesN_length]; exact hbig)]
    go_enter Tryd.func15, Tryd.ntmps15
    go_wp2
    have b0 : Boxed (((w.alloc (.cells #[.slice none 0 0] 28)).alloc (.cells #[.int .i64 0] 3)).alloc (.cells #[.int .i64 3] 29)) w.heap.size 28 (.slice none 0 0) := ((Boxed.new w 28 _).alloc _).alloc _
    have b1 : Boxed (((w.alloc (.cells #[.slice none 0 0] 28)).alloc (.cells #[.int .i64 0] 3)).alloc (.cells #[.int .i64 3] 29)) (w.heap.size + 1) 3 (.int .i64 0) := by
      have := (Boxed.new (w.alloc (.cells #[.slice none 0 0] 28)) 3 (.int .i64 0)).alloc (.cells #[.int .i64 3] 29)
      rwa [World.size_alloc] at this
    have b2 : Boxed (((w.alloc (.cells #[.slice none 0 0] 28)).alloc (.cells #[.int .i64 0] 3)).alloc (.cells #[.int .i64 3] 29)) (w.heap.size + 2) 29 (.int .i64 3) := by
      have := Boxed.new ((w.alloc (.cells #[.slice none 0 0] 28)).alloc (.cells #[.int .i64 0] 3)) 29 (.int .i64 3)
      simpa only [World.size_alloc] using this
    refine bodyPost_ret (xtok_results (g := w.heap.size) rfl rfl rfl b0 b1 b2) rfl ?_
    exact gives_err HX rfl ((((Below.refl _ _).alloc (Nat.le_refl _) _).alloc (by simp) _).alloc (by simp; omega) _)
  · exact callsIn_wide.1 (xtokens_in s (by omega) TT (by unfold Hid; rw [← HTT.out]; exact (tokens_scan _ (by rw [bytesN_length]; omega)).symm) w hL)

theorem in_kept (s : ByteArray) (l : List UInt8) (h : (s.toList == l) = true) (hl : l.map UInt8.toNat ∈ keptL) : true = keptB (bytesN s) := by
  rw [list_is] at h
  have e : bytesN s = l.map UInt8.toNat := by simpa using h
  unfold keptB
  rw [e, decide_eq_true hl]
theorem kept_none (s : ByteArray) (h : ∀ l ∈ keptS, (s.toList == l.data.toList) = false) : false = keptB (bytesN s) := by
  unfold keptB
  rw [eq_comm, decide_eq_false_iff_not, ← kept_same, List.mem_map]
  rintro ⟨x, hx, he⟩
  have h1 := h x hx
  rw [list_is] at h1
  have h2 : ¬ bytesN s = x.data.toList.map UInt8.toNat := by simpa using h1
  exact h2 he.symm
set_option maxRecDepth 100000 in
set_option maxHeartbeats 2000000 in
theorem xkept_as (s : ByteArray) (b : Bool) (hb : keptB (bytesN s) = b) (w : World) :
    Calls Tryd.prog 25 #[.string s] w fun e w' => e = .returned (.bool b) ∧ Below w.heap.size w w' := by
  subst hb
  go_enter Tryd.func25, Tryd.ntmps25
  go_wp2
  all_goals (go_ret; refine ⟨ret_bool ?_, Below.refl _ _⟩)
  all_goals first
    | exact in_kept s _ (by assumption) (by decide)
    | (exfalso; rename_i h1 h2; rw [h1] at h2; cases h2; done)
    | (refine kept_none s ?_; intro l hl; simp only [keptS, List.mem_cons, List.not_mem_nil, or_false] at hl; rcases hl with rfl | rfl | rfl | rfl | rfl | rfl | rfl | rfl | rfl | rfl | rfl | rfl | rfl | rfl | rfl | rfl | rfl | rfl | rfl | rfl | rfl | rfl | rfl | rfl | rfl | rfl | rfl <;> assumption)
set_option maxRecDepth 100000 in
theorem xname_as (s : ByteArray) (b : Bool) (h : s.size ≤ 1048576) (hb : nameB (bytesN s) = b) (w : World) :
    Calls Tryd.prog 23 #[.string s] w fun e w' => e = .returned (.bool b) ∧ Below w.heap.size w w' := by
  by_cases h0 : s.size = 0
  · obtain rfl := empty_is s h0
    have HF : Hid (false = b) := by unfold Hid; rw [← hb]; rfl
    clear hb h0
    go_enter Tryd.func23, Tryd.ntmps23
    go_wp2
    go_ret
    exact ⟨ret_bool HF.out, Below.refl _ _⟩
  · have hp : 0 < s.size := by omega
    have hne : (s.toList == []) = false := by
      rw [ByteArray.toList_eq, beq_eq_false_iff_ne]
      intro q
      have h1 : bytesN s = [] := by unfold bytesN; rw [q]; rfl
      have h2 := bytesN_length s
      rw [h1] at h2
      simp at h2; omega
    obtain ⟨c, hc⟩ : ∃ c, (s[0]'hp).toNat = c := ⟨_, rfl⟩
    have hd := bytesN_drop s 0 hp
    rw [hc, List.drop_zero] at hd
    have hnm : nameB (bytesN s) = (letterB c && decide (wordN (bytesN s) = (bytesN s).length) && !keptB (bytesN s)) := by
      rw [hd]; rfl
    have HNM : Hid ((letterB c && decide (wordN (bytesN s) = (bytesN s).length) && !keptB (bytesN s)) = b) := by unfold Hid; rw [← hnm]; exact hb
    clear hd hnm hb h0
    by_cases hl : letterB c = true
    · have HL : Hid (letterB c = true) := hl
      clear hl
      obtain ⟨E, hE⟩ : ∃ E, Hid (0 + wordN ((bytesN s).drop 0) = E) := ⟨_, rfl⟩
      have hk2 : ∀ w : World, KindsAt ((w.alloc (.cells #[.int .u8 1] 60)).alloc (.cells #[.int .u8 1, .int .u8 2] 60)) (w.heap.size + 1) [1, 2] := by
        intro w
        have := kinds2 (w.alloc (.cells #[.int .u8 1] 60)) 1 2 (by omega) (by omega) 1 2 rfl rfl 60
        rwa [World.size_alloc] at this
      have HK2 : Hid _ := hk2
      have hb2 : Below w.heap.size w ((w.alloc (.cells #[.int .u8 1] 60)).alloc (.cells #[.int .u8 1, .int .u8 2] 60)) := ((Below.refl _ _).alloc (Nat.le_refl _) _).alloc (by simp) _
      have HB2 : Hid _ := hb2
      clear hk2 hb2
      by_cases hw : E = s.size
      · have HW : Hid (decide (wordN (bytesN s) = (bytesN s).length) = true) := by
          unfold Hid; have := hE.out; rw [List.drop_zero, Nat.zero_add] at this; rw [this, bytesN_length]; simp [hw]
        obtain ⟨k, hk⟩ : ∃ k, Hid (keptB (bytesN s) = k) := ⟨_, rfl⟩
        have HR : Hid ((!k) = b) := by unfold Hid; rw [← HNM.out, HL.out, HW.out, hk.out]; rfl
        have heq : ((E : Int) == (s.size : Int)) = true := by simp [hw]
        have HWE : Hid (E = s.size) := hw
        clear hw
        go_enter Tryd.func23, Tryd.ntmps23
        go_wp2_with fail
        refine (xis_any [1] w.heap.size 1 c _ rfl (by omega) true (by rw [isB1]; exact HL.out) (kinds1 w 1 (by omega) 1 rfl _)).mono ?_
        rintro e wx ⟨rfl, rfl⟩
        go_wp2_with fail
        refine (xpast_any s 0 0 E [1, 2] (w.heap.size + 1) 2 _ rfl (by omega) h rfl (by omega) (by rw [isB12]; exact hE.out) (HK2.out w)).mono ?_
        rintro e wx ⟨rfl, rfl⟩
        go_wp2_with fail
        refine (xkept_as s k hk.out _).mono ?_
        rintro e w2 ⟨rfl, hb2⟩
        go_wp2
        go_ret
        exact ⟨ret_bool HR.out, below_chain HB2.out hb2 (Nat.le_refl _)⟩
      · have HR : Hid (false = b) := by
          unfold Hid; rw [← HNM.out]
          have := hE.out; rw [List.drop_zero, Nat.zero_add] at this
          rw [this, bytesN_length]; simp [hw]
        have heq : ((E : Int) == (s.size : Int)) = false := by simp; omega
        go_enter Tryd.func23, Tryd.ntmps23
        go_wp2_with fail
        refine (xis_any [1] w.heap.size 1 c _ rfl (by omega) true (by rw [isB1]; exact HL.out) (kinds1 w 1 (by omega) 1 rfl _)).mono ?_
        rintro e wx ⟨rfl, rfl⟩
        go_wp2_with fail
        refine (xpast_any s 0 0 E [1, 2] (w.heap.size + 1) 2 _ rfl (by omega) h rfl (by omega) (by rw [isB12]; exact hE.out) (HK2.out w)).mono ?_
        rintro e wx ⟨rfl, rfl⟩
        go_wp2
        go_ret
        exact ⟨ret_bool HR.out, HB2.out⟩
    · have HL : Hid (letterB c = false) := by simpa [Hid] using hl
      have HR : Hid (false = b) := by unfold Hid; rw [← HNM.out, HL.out]; rfl
      clear hl
      go_enter Tryd.func23, Tryd.ntmps23
      go_wp2_with fail
      refine (xis_any [1] w.heap.size 1 c _ rfl (by omega) false (by rw [isB1]; exact HL.out) (kinds1 w 1 (by omega) 1 rfl _)).mono ?_
      rintro e wx ⟨rfl, rfl⟩
      go_wp2
      go_ret
      exact ⟨ret_bool HR.out, (Below.refl _ _).alloc (Nat.le_refl _) _⟩
end Go.Proofs.YteeoakbafbnkhaaDoor
