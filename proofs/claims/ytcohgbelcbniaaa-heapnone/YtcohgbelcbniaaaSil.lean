/-
  HeapNone, walked: calls on no heap, and on a zero one.
-/
import Derived.Test.YtcohgbelcbniaaaOps
import Derived.Deep.CutBlock
import Derived.Deep.DeepCutAuto
namespace Go.Proofs.Ytcohgbelcbniaaa
open Go.RowKit
set_option linter.unusedVariables false

/-- No heap, or a zero one. -/
def Zp (w : World) (hv : Value) : Prop := hv = .pointer none ∨ ∃ z, hv = ptr z ∧ Own w z #[.bool false, .int .i64 0, .int .i64 0, .slice none 0 0] 42
theorem Zp.below {w w' : World} {hv : Value} (h : Zp w hv) (hb : Below w.heap.size w w') : Zp w' hv := by
  rcases h with q | ⟨z, q, ho⟩
  · exact .inl q
  · exact .inr ⟨z, q, ho.below hb⟩
set_option maxRecDepth 100000 in
set_option maxHeartbeats 1000000 in
theorem zPay {w : World} {hv : Value} (h : Zp w hv) (c : Int) (h1 : 1 ≤ c) : Calls Try.prog 44 #[hv, .int .i64 c] w fun e w' => e = .returned (.bool false) ∧ Below w.heap.size w w' := by
  have HR : Hid (∀ q, Below w.heap.size w (w.drewN q)) := fun q => below_drewN w q
  rcases h with rfl | ⟨z, rfl, ho⟩
  · go_enter Try.func44, Try.ntmps44
    go_wp2_with fail
    go_quiet (fail)
    go_wp2_with fail
    go_ret
    exact ⟨rfl, HR.out _⟩
  · obtain ⟨c0, c1, c2, c3, hf⟩ := own4 ho
    have hd : decide ((0 : Int) < c) = true := by simp; omega
    go_enter Try.func44, Try.ntmps44
    go_wp2_with fail
    go_quiet (fail)
    go_wp2_with fail
    go_ret
    exact ⟨rfl, HR.out _⟩
set_option maxRecDepth 100000 in
set_option maxHeartbeats 1000000 in
theorem zFind {w : World} {hv : Value} (h : Zp w hv) (ref : Int) (h0 : 0 ≤ ref) (h1 : ref < 18446744073709551616) : Calls Try.prog 43 #[hv, .int .u64 ref] w fun e w' => e = .returned .nilIface ∧ w = w' := by
  rcases h with rfl | ⟨z, rfl, ho⟩
  · go_enter Try.func43, Try.ntmps43
    go_wp2_with fail
    go_ret
    exact ⟨rfl, rfl⟩
  · obtain ⟨c0, c1, c2, c3, hf⟩ := own4 ho
    by_cases hz : ref = 0
    · subst hz
      go_enter Try.func43, Try.ntmps43
      go_wp2_with fail
      go_ret
      exact ⟨rfl, rfl⟩
    · have hz2 : (ref == 0) = false := by simpa using hz
      have hgt : (0 : Int) < ref := by omega
      go_enter Try.func43, Try.ntmps43
      go_wp2_with fail
      go_ret
      exact ⟨rfl, rfl⟩
theorem zRow (w : World) : Calls Try.prog 48 #[.nilIface] w fun e w' => e = .returned (.tuple #[.pointer none, .bool false]) ∧ w = w' := rowOfS w 0 0 (by omega)
theorem zTxt (w : World) : Calls Try.prog 55 #[.nilIface] w fun e w' => e = .returned (.tuple #[.string ⟨#[]⟩, .bool false]) ∧ w = w' := textOfS w 0 0 (by omega) .nilIface empt (fun h => by omega)
theorem zConst {w : World} {hv : Value} (h : Zp w hv) (s : ByteArray) : Calls Try.prog 28 #[hv, .string s] w fun e w' => e = .returned (.int .u64 0) ∧ w = w' := by
  rcases h with rfl | ⟨z, rfl, ho⟩
  · go_enter Try.func28, Try.ntmps28
    go_wp2_with fail
    go_ret
    exact ⟨rfl, rfl⟩
  · obtain ⟨c0, c1, c2, c3, hf⟩ := own4 ho
    go_enter Try.func28, Try.ntmps28
    go_wp2_with fail
    go_ret
    exact ⟨rfl, rfl⟩
theorem zUsed {w : World} {hv : Value} (h : Zp w hv) : Calls Try.prog 13 #[hv] w fun e w' => e = .returned (.int .i64 0) ∧ w = w' := by
  rcases h with rfl | ⟨z, rfl, ho⟩
  · go_enter Try.func13, Try.ntmps13
    go_wp2_with fail
    go_ret
    exact ⟨rfl, rfl⟩
  · obtain ⟨c0, c1, c2, c3, hf⟩ := own4 ho
    go_enter Try.func13, Try.ntmps13
    go_wp2_with fail
    go_ret
    exact ⟨rfl, rfl⟩
set_option maxRecDepth 100000 in
theorem zRec {w : World} {hv : Value} (h : Zp w hv) (t : Int) (ao : Option Addr) (n cap : Nat) (hn : n ≤ 65536) : Calls Try.prog 20 #[hv, .int .i64 t, .slice ao n cap] w fun e w' => e = .returned (.tuple #[.int .u64 0, .int .i64 4]) ∧ Below w.heap.size w w' := by
  have hp := zPay h (1 + (n : Int)) (by omega)
  clear h
  go_enter Try.func20, Try.ntmps20
  go_wp2_with (go_at_call 44; refine hp.mono ?_; rintro e w1 ⟨rfl, hB⟩)
  go_ret2
  exact ⟨rfl, hB⟩
theorem zEmp {w : World} {hv : Value} (h : Zp w hv) (t : Int) : Calls Try.prog 23 #[hv, .int .i64 t] w fun e w' => e = .returned (.tuple #[.int .u64 0, .int .i64 4]) ∧ Below w.heap.size w w' := by
  have hp := zPay h 1 (by omega)
  clear h
  go_enter Try.func23, Try.ntmps23
  go_wp2_with (go_at_call 44; refine hp.mono ?_; rintro e w1 ⟨rfl, hB⟩)
  go_ret2
  exact ⟨rfl, hB⟩
def zTextT (s : ByteArray) : Int := if 65536 < s.size then 3 else 4
set_option maxRecDepth 100000 in
theorem zText {w : World} {hv : Value} (h : Zp w hv) (s : ByteArray) (hs : s.size ≤ 1048576) : Calls Try.prog 27 #[hv, .string s] w fun e w' => e = .returned (.tuple #[.int .u64 0, .int .i64 (zTextT s)]) ∧ Below w.heap.size w w' := by
  unfold zTextT
  by_cases hb : 65536 < s.size
  · rw [if_pos hb]
    go_enter Try.func27, Try.ntmps27
    go_wp2_with fail
    go_ret2
    exact ⟨rfl, Below.refl _ _⟩
  · rw [if_neg hb]
    have hp := zPay h (1 + ((s.size : Int) + 7) / 8) (by omega)
    clear h
    go_enter Try.func27, Try.ntmps27
    go_wp2_with (go_at_call 44; refine hp.mono ?_; rintro e w1 ⟨rfl, hB⟩)
    go_ret2
    exact ⟨rfl, hB⟩
def zFillT (n : Int) : Int := if n < 0 ∨ 65536 < n then 3 else 4
set_option maxRecDepth 100000 in
theorem zFill {w : World} {hv : Value} (h : Zp w hv) (t n x : Int) (h1 : -9223372036854775808 ≤ n) (h2 : n < 9223372036854775808) : Calls Try.prog 32 #[hv, .int .i64 t, .int .i64 n, .int .u64 x] w fun e w' => e = .returned (.tuple #[.int .u64 0, .int .i64 (zFillT n)]) ∧ Below w.heap.size w w' := by
  unfold zFillT
  by_cases q1 : n < 0
  · rw [if_pos (.inl q1)]
    go_enter Try.func32, Try.ntmps32
    go_wp2_with fail
    go_ret2
    exact ⟨rfl, Below.refl _ _⟩
  by_cases q2 : 65536 < n
  · rw [if_pos (.inr q2)]
    go_enter Try.func32, Try.ntmps32
    go_wp2_with fail
    go_ret2
    exact ⟨rfl, Below.refl _ _⟩
  rw [if_neg (by omega)]
  have hp := zPay h (1 + n) (by omega)
  clear h
  go_enter Try.func32, Try.ntmps32
  go_wp2_with (go_at_call 44; refine hp.mono ?_; rintro e w1 ⟨rfl, hB⟩)
  go_ret2
  exact ⟨rfl, hB⟩
theorem zWord {w : World} {hv : Value} (h : Zp w hv) (ref i : Int) (h0 : 0 ≤ ref) (h1 : ref < 18446744073709551616) : Calls Try.prog 47 #[hv, .int .u64 ref, .int .i64 i] w fun e w' => e = .returned (.pointer none) ∧ w = w' := by
  have hf := zFind h ref h0 h1
  have hr := zRow w
  clear h
  go_enter Try.func47, Try.ntmps47
  go_wp2_with (first | (go_at_call 43; refine hf.mono ?_; rintro e w1 ⟨rfl, rfl⟩) | (go_at_call 48; refine hr.mono ?_; rintro e w1 ⟨rfl, rfl⟩))
  go_ret
  exact ⟨rfl, rfl⟩
theorem zGet {w : World} {hv : Value} (h : Zp w hv) (ref i : Int) (h0 : 0 ≤ ref) (h1 : ref < 18446744073709551616) : Calls Try.prog 22 #[hv, .int .u64 ref, .int .i64 i] w fun e w' => e = .returned (.tuple #[.int .u64 0, .int .i64 2]) ∧ w = w' := by
  have hf := zWord h ref i h0 h1
  clear h
  go_enter Try.func22, Try.ntmps22
  go_wp2_with (go_at_call 47; refine hf.mono ?_; rintro e w1 ⟨rfl, rfl⟩)
  go_ret2
  exact ⟨rfl, rfl⟩
theorem zSet {w : World} {hv : Value} (h : Zp w hv) (ref i x : Int) (h0 : 0 ≤ ref) (h1 : ref < 18446744073709551616) : Calls Try.prog 21 #[hv, .int .u64 ref, .int .i64 i, .int .u64 x] w fun e w' => e = .returned (.int .i64 2) ∧ w = w' := by
  have hf := zWord h ref i h0 h1
  clear h
  go_enter Try.func21, Try.ntmps21
  go_wp2_with (go_at_call 47; refine hf.mono ?_; rintro e w1 ⟨rfl, rfl⟩)
  go_ret
  exact ⟨rfl, rfl⟩
theorem zPush {w : World} {hv : Value} (h : Zp w hv) (ref x : Int) (h0 : 0 ≤ ref) (h1 : ref < 18446744073709551616) : Calls Try.prog 24 #[hv, .int .u64 ref, .int .u64 x] w fun e w' => e = .returned (.int .i64 2) ∧ w = w' := by
  have hf := zFind h ref h0 h1
  have hr := zRow w
  clear h
  go_enter Try.func24, Try.ntmps24
  go_wp2_with (first | (go_at_call 43; refine hf.mono ?_; rintro e w1 ⟨rfl, rfl⟩) | (go_at_call 48; refine hr.mono ?_; rintro e w1 ⟨rfl, rfl⟩))
  go_ret
  exact ⟨rfl, rfl⟩
theorem zDrop {w : World} {hv : Value} (h : Zp w hv) (ref : Int) (h0 : 0 ≤ ref) (h1 : ref < 18446744073709551616) : Calls Try.prog 26 #[hv, .int .u64 ref] w fun e w' => e = .returned (.tuple #[.int .u64 0, .int .i64 2]) ∧ w = w' := by
  have hf := zFind h ref h0 h1
  have hr := zRow w
  clear h
  go_enter Try.func26, Try.ntmps26
  go_wp2_with (first | (go_at_call 43; refine hf.mono ?_; rintro e w1 ⟨rfl, rfl⟩) | (go_at_call 48; refine hr.mono ?_; rintro e w1 ⟨rfl, rfl⟩))
  go_ret2
  exact ⟨rfl, rfl⟩
theorem zLen {w : World} {hv : Value} (h : Zp w hv) (ref : Int) (h0 : 0 ≤ ref) (h1 : ref < 18446744073709551616) : Calls Try.prog 25 #[hv, .int .u64 ref] w fun e w' => e = .returned (.tuple #[.int .i64 0, .bool false]) ∧ w = w' := by
  have hf := zFind h ref h0 h1
  clear h
  go_enter Try.func25, Try.ntmps25
  go_wp2_with (go_at_call 43; refine hf.mono ?_; rintro e w1 ⟨rfl, rfl⟩)
  go_ret2
  exact ⟨rfl, rfl⟩
theorem zType {w : World} {hv : Value} (h : Zp w hv) (ref : Int) (h0 : 0 ≤ ref) (h1 : ref < 18446744073709551616) : Calls Try.prog 19 #[hv, .int .u64 ref] w fun e w' => e = .returned (.int .i64 0) ∧ w = w' := by
  have hf := zFind h ref h0 h1
  clear h
  go_enter Try.func19, Try.ntmps19
  go_wp2_with (go_at_call 43; refine hf.mono ?_; rintro e w1 ⟨rfl, rfl⟩)
  go_ret
  exact ⟨rfl, rfl⟩
theorem zBytes {w : World} {hv : Value} (h : Zp w hv) (ref : Int) (h0 : 0 ≤ ref) (h1 : ref < 18446744073709551616) : Calls Try.prog 39 #[hv, .int .u64 ref] w fun e w' => e = .returned (.tuple #[.string ⟨#[]⟩, .bool false]) ∧ w = w' := by
  have hf := zFind h ref h0 h1
  have hr := zTxt w
  clear h
  go_enter Try.func39, Try.ntmps39
  go_wp2_with (first | (go_at_call 43; refine hf.mono ?_; rintro e w1 ⟨rfl, rfl⟩) | (go_at_call 55; refine hr.mono ?_; rintro e w1 ⟨rfl, rfl⟩))
  go_ret2
  exact ⟨rfl, rfl⟩
set_option maxRecDepth 100000 in
set_option maxHeartbeats 4000000 in
theorem silentS {A w : World} {hv : Value} (h : Zp w hv) {s : Op} (ho : OpOk A s) (hl1 : s.text.size ≤ 1048576) (hl2 : s.words.length ≤ 65536) : Calls Try.prog 16 #[hv, .agg (opV s).toArray] w fun e w' => e = .returned (.bool true) ∧ Below w.heap.size w w' := by
  have hbox := Own.new w (opV s).toArray 26
  have hb0 : Below w.heap.size w (w.alloc (.cells (opV s).toArray 26)) := (Below.refl _ w).alloc (Nat.le_refl _) _
  have hz := h.below hb0
  have HBX : Hid (∀ W', Below (w.alloc (.cells (opV s).toArray 26)).heap.size (w.alloc (.cells (opV s).toArray 26)) W' → _) := fun W' hB => own8 (hbox.below hB)
  have c := own8 hbox
  obtain ⟨kd, tx, nn, mm, ws, ref, i, word, ao, cap⟩ := s
  simp only at *
  obtain ⟨l, hlw⟩ : ∃ l, Hid (ws.length = l) := ⟨_, rfl⟩
  have hcm := ho.ws.capm
  have hcl := ho.ws.capl
  simp only at hcl hcm
  unfold maxLen at hcm
  rw [hlw.out] at HBX c hl2 hcl
  have hopv : (opV ⟨kd, tx, nn, mm, ws, ref, i, word, ao, cap⟩).toArray = #[.int .i64 kd, .string tx, .int .i64 nn, .int .i64 mm, .slice ao l cap, .int .u64 ref, .int .i64 i, .int .u64 word] := by unfold opV; simp only [hlw.out]
  rw [hopv] at HBX hb0 hz c ⊢
  clear hbox hopv
  obtain ⟨w1, hw1⟩ : ∃ w1, Hid (w.alloc (.cells #[.int .i64 kd, .string tx, .int .i64 nn, .int .i64 mm, .slice ao l cap, .int .u64 ref, .int .i64 i, .int .u64 word] 26) = w1) := ⟨_, rfl⟩
  rw [hw1.out] at HBX hb0 hz c
  have H20 : Hid (∀ W', Below w1.heap.size w1 W' → Calls Try.prog 20 #[hv, .int .i64 nn, .slice ao l cap] W' fun e w' => e = .returned (.tuple #[.int .u64 0, .int .i64 4]) ∧ Below w1.heap.size w1 w') := by
    intro W' hB
    have z := hz.below hB
    refine (zRec z nn ao l cap hl2).mono ?_
    rintro e w' ⟨rfl, hq⟩
    exact ⟨rfl, hB.trans (hq.mono hB.size)⟩
  have H23 : Hid (∀ W', Below w1.heap.size w1 W' → Calls Try.prog 23 #[hv, .int .i64 nn] W' fun e w' => e = .returned (.tuple #[.int .u64 0, .int .i64 4]) ∧ Below w1.heap.size w1 w') := by
    intro W' hB
    have z := hz.below hB
    refine (zEmp z nn).mono ?_
    rintro e w' ⟨rfl, hq⟩
    exact ⟨rfl, hB.trans (hq.mono hB.size)⟩
  have H22 : Hid (∀ W', Below w1.heap.size w1 W' → Calls Try.prog 22 #[hv, .int .u64 ref, .int .i64 i] W' fun e w' => e = .returned (.tuple #[.int .u64 0, .int .i64 2]) ∧ Below w1.heap.size w1 w') := by
    intro W' hB
    have z := hz.below hB
    refine (zGet z ref i ho.ref.1 ho.ref.2).mono ?_
    rintro e w' ⟨rfl, hq⟩
    subst hq
    exact ⟨rfl, hB⟩
  have H26 : Hid (∀ W', Below w1.heap.size w1 W' → Calls Try.prog 26 #[hv, .int .u64 ref] W' fun e w' => e = .returned (.tuple #[.int .u64 0, .int .i64 2]) ∧ Below w1.heap.size w1 w') := by
    intro W' hB
    have z := hz.below hB
    refine (zDrop z ref ho.ref.1 ho.ref.2).mono ?_
    rintro e w' ⟨rfl, hq⟩
    subst hq
    exact ⟨rfl, hB⟩
  have H25 : Hid (∀ W', Below w1.heap.size w1 W' → Calls Try.prog 25 #[hv, .int .u64 ref] W' fun e w' => e = .returned (.tuple #[.int .i64 0, .bool false]) ∧ Below w1.heap.size w1 w') := by
    intro W' hB
    have z := hz.below hB
    refine (zLen z ref ho.ref.1 ho.ref.2).mono ?_
    rintro e w' ⟨rfl, hq⟩
    subst hq
    exact ⟨rfl, hB⟩
  have H39 : Hid (∀ W', Below w1.heap.size w1 W' → Calls Try.prog 39 #[hv, .int .u64 ref] W' fun e w' => e = .returned (.tuple #[.string ⟨#[]⟩, .bool false]) ∧ Below w1.heap.size w1 w') := by
    intro W' hB
    have z := hz.below hB
    refine (zBytes z ref ho.ref.1 ho.ref.2).mono ?_
    rintro e w' ⟨rfl, hq⟩
    subst hq
    exact ⟨rfl, hB⟩
  have H27 : Hid (∀ W', Below w1.heap.size w1 W' → Calls Try.prog 27 #[hv, .string tx] W' fun e w' => e = .returned (.tuple #[.int .u64 0, .int .i64 (zTextT tx)]) ∧ Below w1.heap.size w1 w') := by
    intro W' hB
    have z := hz.below hB
    refine (zText z tx hl1).mono ?_
    rintro e w' ⟨rfl, hq⟩
    exact ⟨rfl, hB.trans (hq.mono hB.size)⟩
  have H32 : Hid (∀ W', Below w1.heap.size w1 W' → Calls Try.prog 32 #[hv, .int .i64 nn, .int .i64 mm, .int .u64 word] W' fun e w' => e = .returned (.tuple #[.int .u64 0, .int .i64 (zFillT mm)]) ∧ Below w1.heap.size w1 w') := by
    intro W' hB
    have z := hz.below hB
    refine (zFill z nn mm word ho.m.1 ho.m.2).mono ?_
    rintro e w' ⟨rfl, hq⟩
    exact ⟨rfl, hB.trans (hq.mono hB.size)⟩
  have H28 : Hid (∀ W', Below w1.heap.size w1 W' → Calls Try.prog 28 #[hv, .string tx] W' fun e w' => e = .returned (.int .u64 0) ∧ Below w1.heap.size w1 w') := by
    intro W' hB
    have z := hz.below hB
    refine (zConst z tx).mono ?_
    rintro e w' ⟨rfl, hq⟩
    subst hq
    exact ⟨rfl, hB⟩
  have H13 : Hid (∀ W', Below w1.heap.size w1 W' → Calls Try.prog 13 #[hv] W' fun e w' => e = .returned (.int .i64 0) ∧ Below w1.heap.size w1 w') := by
    intro W' hB
    have z := hz.below hB
    refine (zUsed z).mono ?_
    rintro e w' ⟨rfl, hq⟩
    subst hq
    exact ⟨rfl, hB⟩
  have H19 : Hid (∀ W', Below w1.heap.size w1 W' → Calls Try.prog 19 #[hv, .int .u64 ref] W' fun e w' => e = .returned (.int .i64 0) ∧ Below w1.heap.size w1 w') := by
    intro W' hB
    have z := hz.below hB
    refine (zType z ref ho.ref.1 ho.ref.2).mono ?_
    rintro e w' ⟨rfl, hq⟩
    subst hq
    exact ⟨rfl, hB⟩
  have H21 : Hid (∀ W', Below w1.heap.size w1 W' → Calls Try.prog 21 #[hv, .int .u64 ref, .int .i64 i, .int .u64 word] W' fun e w' => e = .returned (.int .i64 2) ∧ Below w1.heap.size w1 w') := by
    intro W' hB
    have z := hz.below hB
    refine (zSet z ref i word ho.ref.1 ho.ref.2).mono ?_
    rintro e w' ⟨rfl, hq⟩
    subst hq
    exact ⟨rfl, hB⟩
  have H24 : Hid (∀ W', Below w1.heap.size w1 W' → Calls Try.prog 24 #[hv, .int .u64 ref, .int .u64 word] W' fun e w' => e = .returned (.int .i64 2) ∧ Below w1.heap.size w1 w') := by
    intro W' hB
    have z := hz.below hB
    refine (zPush z ref word ho.ref.1 ho.ref.2).mono ?_
    rintro e w' ⟨rfl, hq⟩
    subst hq
    exact ⟨rfl, hB⟩
  obtain ⟨c0, c1, c2, c3, c4, c5, c6, c7⟩ := c
  have B := Below.refl w1.heap.size w1
  have hs0 := hb0.size
  obtain ⟨TT, hTT⟩ : ∃ T, Hid (zTextT tx = T) := ⟨_, rfl⟩
  obtain ⟨TF, hTF⟩ : ∃ T, Hid (zFillT mm = T) := ⟨_, rfl⟩
  rw [hTT.out] at H27
  rw [hTF.out] at H32
  have e1 : (65536 < tx.size ∧ TT = 3) ∨ (¬ 65536 < tx.size ∧ TT = 4) := by
    rw [← hTT.out]; unfold zTextT; split <;> simp_all
  have e2 : (mm < 0 ∧ TF = 3) ∨ (¬ mm < 0 ∧ 65536 < mm ∧ TF = 3) ∨ (¬ mm < 0 ∧ ¬ 65536 < mm ∧ TF = 4) := by
    rw [← hTF.out]; unfold zFillT
    by_cases q1 : mm < 0
    · exact .inl ⟨q1, by rw [if_pos (.inl q1)]⟩
    · by_cases q2 : 65536 < mm
      · exact .inr (.inl ⟨q1, q2, by rw [if_pos (.inr q2)]⟩)
      · exact .inr (.inr ⟨q1, q2, by rw [if_neg (by omega)]⟩)
  clear ho hz hlw hTT hTF h
  go_enter Try.func16, Try.ntmps16
  go_upto_region 1 with fail
  rw [hw1.out]
  go_upto_region 9 with (first | (go_at_call 20; refine (H20.out _ B).mono ?_; rintro e wn ⟨rfl, B2⟩; clear B c0 c1 c2 c3 c4 c5 c6 c7; have B := B2; clear B2; obtain ⟨c0, c1, c2, c3, c4, c5, c6, c7⟩ := HBX.out _ B) | (go_at_call 23; refine (H23.out _ B).mono ?_; rintro e wn ⟨rfl, B2⟩; clear B c0 c1 c2 c3 c4 c5 c6 c7; have B := B2; clear B2; obtain ⟨c0, c1, c2, c3, c4, c5, c6, c7⟩ := HBX.out _ B) | (go_at_call 22; refine (H22.out _ B).mono ?_; rintro e wn ⟨rfl, B2⟩; clear B c0 c1 c2 c3 c4 c5 c6 c7; have B := B2; clear B2; obtain ⟨c0, c1, c2, c3, c4, c5, c6, c7⟩ := HBX.out _ B) | (go_at_call 26; refine (H26.out _ B).mono ?_; rintro e wn ⟨rfl, B2⟩; clear B c0 c1 c2 c3 c4 c5 c6 c7; have B := B2; clear B2; obtain ⟨c0, c1, c2, c3, c4, c5, c6, c7⟩ := HBX.out _ B) | (go_at_call 25; refine (H25.out _ B).mono ?_; rintro e wn ⟨rfl, B2⟩; clear B c0 c1 c2 c3 c4 c5 c6 c7; have B := B2; clear B2; obtain ⟨c0, c1, c2, c3, c4, c5, c6, c7⟩ := HBX.out _ B) | (go_at_call 39; refine (H39.out _ B).mono ?_; rintro e wn ⟨rfl, B2⟩; clear B c0 c1 c2 c3 c4 c5 c6 c7; have B := B2; clear B2; obtain ⟨c0, c1, c2, c3, c4, c5, c6, c7⟩ := HBX.out _ B) | (go_at_call 27; refine (H27.out _ B).mono ?_; rintro e wn ⟨rfl, B2⟩; clear B c0 c1 c2 c3 c4 c5 c6 c7; have B := B2; clear B2; obtain ⟨c0, c1, c2, c3, c4, c5, c6, c7⟩ := HBX.out _ B) | (go_at_call 32; refine (H32.out _ B).mono ?_; rintro e wn ⟨rfl, B2⟩; clear B c0 c1 c2 c3 c4 c5 c6 c7; have B := B2; clear B2; obtain ⟨c0, c1, c2, c3, c4, c5, c6, c7⟩ := HBX.out _ B) | (go_at_call 28; refine (H28.out _ B).mono ?_; rintro e wn ⟨rfl, B2⟩; clear B c0 c1 c2 c3 c4 c5 c6 c7; have B := B2; clear B2; obtain ⟨c0, c1, c2, c3, c4, c5, c6, c7⟩ := HBX.out _ B) | (go_at_call 13; refine (H13.out _ B).mono ?_; rintro e wn ⟨rfl, B2⟩; clear B c0 c1 c2 c3 c4 c5 c6 c7; have B := B2; clear B2; obtain ⟨c0, c1, c2, c3, c4, c5, c6, c7⟩ := HBX.out _ B) | (go_at_call 19; refine (H19.out _ B).mono ?_; rintro e wn ⟨rfl, B2⟩; clear B c0 c1 c2 c3 c4 c5 c6 c7; have B := B2; clear B2; obtain ⟨c0, c1, c2, c3, c4, c5, c6, c7⟩ := HBX.out _ B) | (go_at_call 21; refine (H21.out _ B).mono ?_; rintro e wn ⟨rfl, B2⟩; clear B c0 c1 c2 c3 c4 c5 c6 c7; have B := B2; clear B2; obtain ⟨c0, c1, c2, c3, c4, c5, c6, c7⟩ := HBX.out _ B) | (go_at_call 24; refine (H24.out _ B).mono ?_; rintro e wn ⟨rfl, B2⟩; clear B c0 c1 c2 c3 c4 c5 c6 c7; have B := B2; clear B2; obtain ⟨c0, c1, c2, c3, c4, c5, c6, c7⟩ := HBX.out _ B))
  go_upto_if 91 with fail
  go_cut [21] (fun v wx => v = .int .i64 TT ∧ wx = wn)
  case first =>
    rcases e1 with ⟨q1, rfl⟩ | ⟨q1, rfl⟩
    all_goals
      go_wp2_with fail
      go_meet
      exact ⟨rfl, rfl⟩
  case rest =>
    obtain ⟨rfl, rfl⟩ := hcut
    go_upto_region 13 with fail
    obtain ⟨bF, hbF⟩ : ∃ bF : Bool, (bF = true ∧ TF = 3 ∧ (mm < 0 ∨ (¬ mm < 0 ∧ 65536 < mm))) ∨ (bF = false ∧ TF = 4 ∧ ¬ mm < 0 ∧ ¬ 65536 < mm) := by
      rcases e2 with ⟨q2, h⟩ | ⟨q2, q3, h⟩ | ⟨q2, q3, h⟩
      · exact ⟨true, .inl ⟨rfl, h, .inl (by omega)⟩⟩
      · exact ⟨true, .inl ⟨rfl, h, .inr ⟨by omega, by omega⟩⟩⟩
      · exact ⟨false, .inr ⟨rfl, h, by omega, by omega⟩⟩
    clear e1 e2
    go_cut [99] (fun v wx => v = .bool bF ∧ wx = wc)
    case first =>
      rcases hbF with ⟨rfl, rfl, q2 | ⟨q2, q3⟩⟩ | ⟨rfl, rfl, q2, q3⟩
      all_goals
        go_wp2_with fail
        go_meet
        exact ⟨rfl, rfl⟩
    case rest =>
      obtain ⟨rfl, rfl⟩ := hcut
      have hbF2 : (bF = true ∧ TF = 3) ∨ (bF = false ∧ TF = 4) := by
        rcases hbF with ⟨h1, h2, _⟩ | ⟨h1, h2, _⟩
        · exact .inl ⟨h1, h2⟩
        · exact .inr ⟨h1, h2⟩
      clear hbF
      go_upto_if 99 with fail
      go_cut [22] (fun v wx => v = .int .i64 TF ∧ wx = wc)
      case first =>
        rcases hbF2 with ⟨rfl, rfl⟩ | ⟨rfl, rfl⟩
        all_goals
          go_wp2_with fail
          go_meet
          exact ⟨rfl, rfl⟩
      case rest =>
        obtain ⟨rfl, rfl⟩ := hcut
        clear hbF2
        go_wp2_with (first | (go_at_call 20; refine (H20.out _ B).mono ?_; rintro e wn ⟨rfl, B2⟩; clear B c0 c1 c2 c3 c4 c5 c6 c7; have B := B2; clear B2; obtain ⟨c0, c1, c2, c3, c4, c5, c6, c7⟩ := HBX.out _ B) | (go_at_call 23; refine (H23.out _ B).mono ?_; rintro e wn ⟨rfl, B2⟩; clear B c0 c1 c2 c3 c4 c5 c6 c7; have B := B2; clear B2; obtain ⟨c0, c1, c2, c3, c4, c5, c6, c7⟩ := HBX.out _ B) | (go_at_call 22; refine (H22.out _ B).mono ?_; rintro e wn ⟨rfl, B2⟩; clear B c0 c1 c2 c3 c4 c5 c6 c7; have B := B2; clear B2; obtain ⟨c0, c1, c2, c3, c4, c5, c6, c7⟩ := HBX.out _ B) | (go_at_call 26; refine (H26.out _ B).mono ?_; rintro e wn ⟨rfl, B2⟩; clear B c0 c1 c2 c3 c4 c5 c6 c7; have B := B2; clear B2; obtain ⟨c0, c1, c2, c3, c4, c5, c6, c7⟩ := HBX.out _ B) | (go_at_call 25; refine (H25.out _ B).mono ?_; rintro e wn ⟨rfl, B2⟩; clear B c0 c1 c2 c3 c4 c5 c6 c7; have B := B2; clear B2; obtain ⟨c0, c1, c2, c3, c4, c5, c6, c7⟩ := HBX.out _ B) | (go_at_call 39; refine (H39.out _ B).mono ?_; rintro e wn ⟨rfl, B2⟩; clear B c0 c1 c2 c3 c4 c5 c6 c7; have B := B2; clear B2; obtain ⟨c0, c1, c2, c3, c4, c5, c6, c7⟩ := HBX.out _ B) | (go_at_call 27; refine (H27.out _ B).mono ?_; rintro e wn ⟨rfl, B2⟩; clear B c0 c1 c2 c3 c4 c5 c6 c7; have B := B2; clear B2; obtain ⟨c0, c1, c2, c3, c4, c5, c6, c7⟩ := HBX.out _ B) | (go_at_call 32; refine (H32.out _ B).mono ?_; rintro e wn ⟨rfl, B2⟩; clear B c0 c1 c2 c3 c4 c5 c6 c7; have B := B2; clear B2; obtain ⟨c0, c1, c2, c3, c4, c5, c6, c7⟩ := HBX.out _ B) | (go_at_call 28; refine (H28.out _ B).mono ?_; rintro e wn ⟨rfl, B2⟩; clear B c0 c1 c2 c3 c4 c5 c6 c7; have B := B2; clear B2; obtain ⟨c0, c1, c2, c3, c4, c5, c6, c7⟩ := HBX.out _ B) | (go_at_call 13; refine (H13.out _ B).mono ?_; rintro e wn ⟨rfl, B2⟩; clear B c0 c1 c2 c3 c4 c5 c6 c7; have B := B2; clear B2; obtain ⟨c0, c1, c2, c3, c4, c5, c6, c7⟩ := HBX.out _ B) | (go_at_call 19; refine (H19.out _ B).mono ?_; rintro e wn ⟨rfl, B2⟩; clear B c0 c1 c2 c3 c4 c5 c6 c7; have B := B2; clear B2; obtain ⟨c0, c1, c2, c3, c4, c5, c6, c7⟩ := HBX.out _ B) | (go_at_call 21; refine (H21.out _ B).mono ?_; rintro e wn ⟨rfl, B2⟩; clear B c0 c1 c2 c3 c4 c5 c6 c7; have B := B2; clear B2; obtain ⟨c0, c1, c2, c3, c4, c5, c6, c7⟩ := HBX.out _ B) | (go_at_call 24; refine (H24.out _ B).mono ?_; rintro e wn ⟨rfl, B2⟩; clear B c0 c1 c2 c3 c4 c5 c6 c7; have B := B2; clear B2; obtain ⟨c0, c1, c2, c3, c4, c5, c6, c7⟩ := HBX.out _ B))
        go_ret
        exact ⟨rfl, hb0.trans (B.mono hs0)⟩
end Go.Proofs.Ytcohgbelcbniaaa
