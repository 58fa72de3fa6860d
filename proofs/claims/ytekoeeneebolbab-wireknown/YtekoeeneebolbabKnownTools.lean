/-
  CONTRACTS at known numbers and bytes, for WireKnown; the law's own 'wrong'.
-/
import Derived.Test.YtekoeeneebolbabWorks
import Derived.Lib.ConvBytes
import Derived.Lib.SlBytesConst
namespace Go.Proofs.Ytekoeeneebolbab
open Go.RowKit

theorem below_chain {B : Nat} {w w1 w2 : World} (h1 : Below B w w1) (h2 : Below w1.heap.size w1 w2) (hB : B ≤ w.heap.size) : Below B w w2 :=
  h1.trans (h2.mono (Nat.le_trans hB h1.size))

theorem put_str (x : Int) (n : Nat) (xs : List Nat) (L : Nat) (s : ByteArray) (hx : x = n) (hn : n < 18446744073709551616) (hp : putN n = xs) (hL : xs.length = L) (hs : strN xs = s) (w : World) :
    Calls Try.prog 4 #[.int .u64 x] w fun e w' => ∃ g, e = .returned (.slice (some ⟨g, 0, none⟩) L L) ∧ (convert 22 9 (.slice (some ⟨g, 0, none⟩) L L)).run Try.prog w' = .ok (.string s) w' ∧ Below w.heap.size w w' := by
  refine (put_of x n hx hn w).mono ?_
  rintro e w1 ⟨g, rfl, hown, hbel⟩
  have h10 := plen_ten hn
  have hl := lies_of_owns rfl hown (putN_byte n) (by omega)
  have hc := conv_any (L := (putN n).length) (cap := (putN n).length) hl rfl
  rw [hp, hs, hL] at hc
  exact ⟨g, by rw [hp, hL], hc, hbel⟩
theorem putInt_str (x : Int) (xs : List Nat) (L : Nat) (s : ByteArray) (h1 : -9223372036854775808 ≤ x) (h2 : x ≤ 9223372036854775807) (hp : putN (zag x) = xs) (hL : xs.length = L) (hs : strN xs = s) (w : World) :
    Calls Try.prog 5 #[.int .i64 x] w fun e w' => ∃ g, e = .returned (.slice (some ⟨g, 0, none⟩) L L) ∧ (convert 22 9 (.slice (some ⟨g, 0, none⟩) L L)).run Try.prog w' = .ok (.string s) w' ∧ Below w.heap.size w w' := by
  refine (putInt_any x w h1 h2).mono ?_
  rintro e w1 ⟨g, rfl, hown, hbel⟩
  have h10 := plen_ten (zag_lt h1 (by omega : x < 9223372036854775808))
  have hl := lies_of_owns rfl hown (putN_byte (zag x)) (by omega)
  have hc := conv_any (L := (putN (zag x)).length) (cap := (putN (zag x)).length) hl rfl
  rw [hp, hs, hL] at hc
  exact ⟨g, by rw [hp, hL], hc, hbel⟩
theorem fixed_str (x y : Int) (n k : Nat) (s : ByteArray) (hx : x = n) (hy : y = k) (hn : n < 18446744073709551616) (h1 : 1 ≤ k) (h8 : k ≤ 8) (hs : strN (fixN n k) = s) (w : World) :
    Calls Try.prog 8 #[.int .u64 x, .int .i64 y] w fun e w' => ∃ g, e = .returned (.slice (some ⟨g, 0, none⟩) k k) ∧ (convert 22 9 (.slice (some ⟨g, 0, none⟩) k k)).run Try.prog w' = .ok (.string s) w' ∧ Below w.heap.size w w' := by
  subst hx; subst hy
  refine (fixed_any n k w hn h1 h8).mono ?_
  rintro e w1 ⟨g, rfl, hown, hbel⟩
  have hl := lies_of_owns (fixN_length n k).symm hown (fixN_byte n k) (by rw [fixN_length]; omega)
  have hc := conv_any (L := k) (cap := k) hl (fixN_length n k).symm
  rw [hs] at hc
  exact ⟨g, rfl, hc, hbel⟩

theorem lies_lit (w : World) (C : Array Value) (mark : Nat × Nat) (xs : List Nat) (hC : C.toList = nums xs) (hb : ∀ c ∈ xs, c < 256) (hm : xs.length ≤ 9223372036854775807) :
    Lies (w.alloc (.cells C 5 mark)) (some ⟨w.heap.size, 0, none⟩) xs := by
  refine ⟨hb, hm, .inr ⟨_, 0, rfl, fun i hi => ?_⟩⟩
  rw [Nat.zero_add, cell_of_row _ w.heap.size i C 5 mark (heap_alloc_new w _), ← nums_get xs i hi, ← hC]
  simp

theorem below_new (w : World) (o : Obj) : Below w.heap.size w (w.alloc o) := (Below.refl _ _).alloc (Nat.le_refl _) o
theorem get_lit (w : World) (C : Array Value) (mark : Nat × Nat) (xs : List Nat) (L cap : Nat) (p : Int) (N : Nat) (P E : Int) (hC : C.toList = nums xs) (hb : ∀ c ∈ xs, c < 256) (hm : xs.length ≤ 9223372036854775807) (hL : L = xs.length)
    (h1 : gN xs p = N) (h2 : gP xs p = P) (h3 : gE xs p = E) :
    Calls Try.prog 7 #[.slice (some ⟨w.heap.size, 0, none⟩) L cap, .int .i64 p] (w.alloc (.cells C 5 mark)) fun e w' =>
      e = .returned (.tuple #[.int .u64 N, .int .i64 P, .int .i64 E]) ∧ Below w.heap.size w w' := by
  refine (get_any _ L cap xs p _ (lies_lit w C mark xs hC hb hm) hL).mono ?_
  rw [h1, h2, h3]
  rintro e w1 ⟨rfl, rfl⟩
  exact ⟨rfl, below_new w _⟩
theorem wide_lit (w : World) (C : Array Value) (mark : Nat × Nat) (xs : List Nat) (L cap : Nat) (p z : Int) (N : Nat) (P E : Int) (hC : C.toList = nums xs) (hb : ∀ c ∈ xs, c < 256) (hm : xs.length ≤ 9223372036854775807) (hL : L = xs.length)
    (h1 : wN xs p z = N) (h2 : wP xs p z = P) (h3 : wE xs p z = E) :
    Calls Try.prog 9 #[.slice (some ⟨w.heap.size, 0, none⟩) L cap, .int .i64 p, .int .i64 z] (w.alloc (.cells C 5 mark)) fun e w' =>
      e = .returned (.tuple #[.int .u64 N, .int .i64 P, .int .i64 E]) ∧ Below w.heap.size w w' := by
  refine (wide_any _ L cap xs p z _ (lies_lit w C mark xs hC hb hm) hL).mono ?_
  rw [h1, h2, h3]
  rintro e w1 ⟨rfl, rfl⟩
  exact ⟨rfl, below_new w _⟩
theorem sum_lit (w : World) (C : Array Value) (mark : Nat × Nat) (xs : List Nat) (L cap : Nat) (N : Nat) (hC : C.toList = nums xs) (hb : ∀ c ∈ xs, c < 256) (hm : xs.length ≤ 9223372036854775807) (hL : L = xs.length) (h1 : sumN xs = N) :
    Calls Try.prog 10 #[.slice (some ⟨w.heap.size, 0, none⟩) L cap] (w.alloc (.cells C 5 mark)) fun e w' => e = .returned (.int .u32 N) ∧ Below w.heap.size w w' := by
  refine (sum_any _ L cap xs _ (lies_lit w C mark xs hC hb hm) hL).mono ?_
  rw [h1]
  rintro e w1 ⟨rfl, rfl⟩
  exact ⟨rfl, below_new w _⟩

/-- The bytes of a string. -/
def strB (s : ByteArray) : List Nat := s.data.toList.map UInt8.toNat
theorem strB_length (s : ByteArray) : (strB s).length = s.size := by unfold strB; rw [List.length_map, Array.length_toList]; rfl
theorem lies_str (w : World) (s : ByteArray) (hm : s.size ≤ 9223372036854775807) : Lies (Lib.bytesWorld w 5 s) (some ⟨w.heap.size, 0, none⟩) (strB s) := by
  have hlen := strB_length s
  refine ⟨?_, by omega, .inr ⟨_, 0, rfl, fun i hi => ?_⟩⟩
  · intro c hc
    simp only [strB, List.mem_map] at hc
    obtain ⟨u, _, rfl⟩ := hc
    exact u.toNat_lt
  · rw [hlen] at hi
    rw [Nat.zero_add, Lib.bytesWorld_cell w 5 s i hi]
    have hi' : i < s.data.size := hi
    simp [strB, List.getD, Array.getElem?_eq_getElem hi']
theorem below_str (w : World) (s : ByteArray) : Below w.heap.size w (Lib.bytesWorld w 5 s) :=
  ⟨rfl, rfl, rfl, by rw [Lib.bytesWorld_size]; omega, fun k hk => Lib.bytesWorld_at_old w 5 s k hk⟩

set_option maxHeartbeats 400000 in
theorem wrong_any (s : ByteArray) (p e0 : Int) (w : World) (hm : s.size ≤ 9223372036854775807) (h1 : gN (strB s) p = 0) (h2 : gP (strB s) p = 0) (h3 : gE (strB s) p = e0) :
    Calls Try.prog 6 #[.string s, .int .i64 p, .int .i64 e0] w fun e w' => e = .returned (.bool true) ∧ Below w.heap.size w w' := by
  have hlen : s.size = (strB s).length := (strB_length s).symm
  have cv := fun w => Lib.run_convert_string_bytes (P := Try.prog) w 9 22 5 s Try.underlying9 Try.underlying22 Try.underlying5
  have hz : zig (gN (strB s) p) = 0 := by rw [h1]; rfl
  have H1 : Hid (gN (strB s) p = 0) := h1
  have H2 : Hid (gP (strB s) p = 0) := h2
  have H3 : Hid (gE (strB s) p = e0) := h3
  have HZ : Hid (zig (gN (strB s) p) = 0) := hz
  have HL : Hid (s.size = (strB s).length) := hlen
  clear h1 h2 h3 hz hlen
  go_enter Try.func6, Try.ntmps6
  go_wp2_with fail
  refine (get_any _ _ _ (strB s) p _ (lies_str w s hm) HL.out).mono ?_
  rw [H1.out, H2.out, H3.out]
  rintro e w1 ⟨rfl, rfl⟩
  go_wp2_with fail
  refine (getInt_any _ _ _ (strB s) p _ (lies_str _ s hm) HL.out).mono ?_
  rw [HZ.out, H2.out, H3.out]
  rintro e w1 ⟨rfl, rfl⟩
  go_wp2
  go_ret
  exact ⟨rfl, below_chain (below_str w s) (below_str _ s) (Nat.le_refl _)⟩
end Go.Proofs.Ytekoeeneebolbab
