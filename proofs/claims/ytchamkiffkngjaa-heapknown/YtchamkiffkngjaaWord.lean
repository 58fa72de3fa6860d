/-
  CONTRACTS of the landed heap's calls on a thing: word, Get, Set, Len, Type, Bytes.
-/
import Derived.Test.YtchamkiffkngjaaMake
namespace Go.Proofs.Ytchamkiffkngjaa
open Go.RowKit
set_option linter.unusedVariables false

theorem kind_le {m : M} (hi : Inv m) (ref : Int) : (m.at ref).kind ≤ 4 := by
  by_cases q : ref < 1 ∨ (m.ths.length : Int) < ref
  · rw [at_none q]; exact Nat.zero_le _
  · exact (at_kind hi (by omega) (by omega)).2
/-- The thing of a reference, in memory. -/
theorem HOwn.ref {w : World} {p : Nat} {m : M} {vt : Value} {bs : Nat → Nat} {vs : Nat → Value} (H : HOwn w p m vt bs vs) {ref : Int} (hk : (m.at ref).kind ≠ 0) : m.idx ref < m.ths.length ∧ ref = (m.idx ref : Int) + 1 ∧ m.ths[m.idx ref]? = some (m.at ref) ∧ ThIn w (bs (m.idx ref)) (vs (m.idx ref)) (m.at ref) ∧ m.at ref ∈ m.ths := by
  obtain ⟨a1, a2⟩ := at_mem hk
  obtain ⟨k, h1, h2, h3⟩ := at_some a1 a2
  have e : m.idx ref = k := by unfold M.idx; omega
  rw [e]
  exact ⟨h1, h2, h3, H.thing k _ h3, List.mem_of_getElem? h3⟩
theorem ThIn.row2 {w : World} {b : Nat} {v : Value} {t : Th} (h : ThIn w b v t) (hk : t.kind ≠ 1) : Own w b #[.int .i64 t.typ, v] (kB t.kind) := by
  have := h.own
  unfold ThCells at this
  rwa [if_neg hk] at this
theorem ThIn.txt {w : World} {b : Nat} {v : Value} {t : Th} (h : ThIn w b v t) (hk : t.kind = 1) : Own w b #[.int .i64 t.typ, .string t.text] 72 := by
  have := h.own
  unfold ThCells kB at this
  rwa [if_pos hk, if_pos hk] at this
theorem rowV_row {k b : Nat} (h0 : k ≠ 0) (h1 : k ≠ 1) : rowV k b = ptr b := by unfold rowV; rw [if_neg (by omega)]
theorem rowV_nil {k b : Nat} (h : k = 0 ∨ k = 1) : rowV k b = .pointer none := by unfold rowV; rw [if_pos h]
set_option maxRecDepth 100000 in
set_option maxHeartbeats 1000000 in
theorem word_yes {w : World} {p : Nat} {m : M} {vt : Value} {bs : Nat → Nat} {vs : Nat → Value} (H : HOwn w p m vt bs vs) (hn : m.ths.length ≤ 1000000) (ref i : Int) (h0 : 0 ≤ ref) (h1 : ref < 18446744073709551616) (hh : m.has ref i = true) :
    ∃ g cap, vs (m.idx ref) = .slice (some ⟨g, 0, none⟩) (m.at ref).words.length cap ∧ Calls Try.prog 23 #[ptr p, .int .u64 ref, .int .i64 i] w fun e w' => e = .returned (.pointer (some ⟨g, i.toNat, none⟩)) ∧ w = w' := by
  obtain ⟨q1, q2, q3⟩ := has_iff.1 hh
  have hk := has_kind H.inv hh
  obtain ⟨-, -, -, ht, hm⟩ := H.ref hk
  have hf := findS H hn ref h0 h1
  have hr := rowOfS w (m.at ref).kind (bs (m.idx ref)) (kind_le H.inv ref)
  rw [rowV_row hk q1] at hr
  obtain ⟨-, c1, cf⟩ := own2 (ht.row2 q1)
  obtain ⟨g, cap, cur, ev, hg, k1, k2, k3, k4⟩ := ht.row.block (by omega)
  rw [ev] at c1
  have hwl := H.inv.words _ hm
  have hul := H.inv.used
  have hll := H.inv.limit
  refine ⟨g, cap, ev, ?_⟩
  obtain ⟨n, hnn⟩ : ∃ n, Hid ((m.at ref).words.length = n) := ⟨_, rfl⟩
  rw [hnn.out] at c1 q3 hwl
  obtain ⟨j, rfl⟩ : ∃ j : Nat, i = (j : Int) := ⟨i.toNat, by omega⟩
  have hjn : j < n := by omega
  have hjt : ((j : Int)).toNat = j := by omega
  rw [hjt]
  have hn2 : n ≤ 1048576 := by omega
  generalize (m.at ref).kind = K at *
  generalize bs (m.idx ref) = B at *
  clear H hh ht hg k4 ev hnn hm hwl hul hll q2 q3 k1 k2 k3
  go_enter Try.func23, Try.ntmps23
  go_wp2_with (first | (go_at_call 25; refine hf.mono ?_; rintro e w1 ⟨rfl, rfl⟩) | (go_at_call 24; refine hr.mono ?_; rintro e w1 ⟨rfl, rfl⟩))
  go_ret
  exact ⟨rfl, rfl⟩
set_option maxRecDepth 100000 in
set_option maxHeartbeats 1000000 in
theorem word_no {w : World} {p : Nat} {m : M} {vt : Value} {bs : Nat → Nat} {vs : Nat → Value} (H : HOwn w p m vt bs vs) (hn : m.ths.length ≤ 1000000) (ref i : Int) (h0 : 0 ≤ ref) (h1 : ref < 18446744073709551616) (hi1 : -9223372036854775808 ≤ i) (hi2 : i < 9223372036854775808) (hh : m.has ref i = false) :
    Calls Try.prog 23 #[ptr p, .int .u64 ref, .int .i64 i] w fun e w' => e = .returned (.pointer none) ∧ w = w' := by
  have hf := findS H hn ref h0 h1
  have hr := rowOfS w (m.at ref).kind (bs (m.idx ref)) (kind_le H.inv ref)
  by_cases hk : (m.at ref).kind = 0 ∨ (m.at ref).kind = 1
  · rw [rowV_nil hk] at hr
    generalize (m.at ref).kind = K at *
    generalize bs (m.idx ref) = B at *
    clear H hh
    go_enter Try.func23, Try.ntmps23
    go_wp2_with (first | (go_at_call 25; refine hf.mono ?_; rintro e w1 ⟨rfl, rfl⟩) | (go_at_call 24; refine hr.mono ?_; rintro e w1 ⟨rfl, rfl⟩))
    go_ret
    exact ⟨rfl, rfl⟩
  · have hk0 : (m.at ref).kind ≠ 0 := by omega
    have hk1 : (m.at ref).kind ≠ 1 := by omega
    rw [rowV_row hk0 hk1] at hr
    obtain ⟨-, -, -, ht, hm⟩ := H.ref hk0
    obtain ⟨-, c1, cf⟩ := own2 (ht.row2 hk1)
    obtain ⟨ao, cap, ev, k1, k2⟩ := ht.row.shape
    rw [ev] at c1
    have hwl := H.inv.words _ hm
    have hul := H.inv.used
    have hll := H.inv.limit
    have hout : i < 0 ∨ ((m.at ref).words.length : Int) ≤ i := by
      have hx : ¬ ((m.at ref).kind ≠ 1 ∧ 0 ≤ i ∧ i < (m.at ref).words.length) := by rw [← has_iff, hh]; simp
      omega
    obtain ⟨n, hnn⟩ : ∃ n, Hid ((m.at ref).words.length = n) := ⟨_, rfl⟩
    rw [hnn.out] at c1 hwl hout
    have hn2 : n ≤ 1048576 := by omega
    generalize (m.at ref).kind = K at *
    generalize bs (m.idx ref) = B at *
    clear H hh ht ev hnn hm hwl hul hll k1 k2 hk
    rcases hout with hlt | hge
    all_goals
      go_enter Try.func23, Try.ntmps23
      go_wp2_with (first | (go_at_call 25; refine hf.mono ?_; rintro e w1 ⟨rfl, rfl⟩) | (go_at_call 24; refine hr.mono ?_; rintro e w1 ⟨rfl, rfl⟩))
    · go_ret
      exact ⟨rfl, rfl⟩
    · by_cases hz : i < 0
      · omega
      · first | (go_ret; exact ⟨rfl, rfl⟩) | (go_wp2_with fail; go_ret; exact ⟨rfl, rfl⟩)
end Go.Proofs.Ytchamkiffkngjaa
