/-
  THE WALK of WireOrder.
-/
import Derived.Test.YtekoeeneebolbaaWorks
import Derived.Deep.QuietTactic
import Derived.BigQuiet
namespace Go.Proofs.Ytekoeeneebolbaa
open Go.RowKit

theorem fixed_of (x s : Int) (n k : Nat) (hx : x = n) (hs : s = k) (h : n < 18446744073709551616) (h1 : 1 ≤ k) (h8 : k ≤ 8) (w : World) :
    Calls Try.prog 11 #[.int .u64 x, .int .i64 s] w fun e w' => ∃ g, e = .returned (.slice (some ⟨g, 0, none⟩) k k) ∧
      w'.ownsRow w.heap.size 5 1 (.slice (some ⟨g, 0, none⟩) k k) k (nums (fixN n k)) ∧ Below w.heap.size w w' := by
  subst hx; subst hs; exact fixed_any n k w h h1 h8

theorem lies_drewN {w : World} {a : Option Addr} {xs : List Nat} (h : Lies w a xs) (j : Nat) : Lies (w.drewN j) a xs := by
  obtain ⟨h1, h2, h3⟩ := h
  refine ⟨h1, h2, ?_⟩
  rcases h3 with h3 | ⟨b, off, rfl, hc⟩
  · exact .inl h3
  · exact .inr ⟨b, off, rfl, fun i hi => by rw [← hc i hi]; simp⟩

theorem lies_take {w : World} {a : Option Addr} {xs : List Nat} (h : Lies w a xs) (k : Nat) : Lies w a (xs.take k) := by
  obtain ⟨h1, h2, h3⟩ := h
  refine ⟨fun c hc => h1 c (List.mem_of_mem_take hc), by rw [List.length_take]; omega, ?_⟩
  rcases h3 with rfl | ⟨b, off, rfl, hc⟩
  · exact .inl (by simp)
  · refine .inr ⟨b, off, rfl, fun i hi => ?_⟩
    rw [List.length_take] at hi
    rw [hc i (by omega)]
    simp [List.getD, show i < k by omega]

theorem wide_fix (n k : Nat) (h1 : 1 ≤ k) (h7 : k ≤ 7) (a : Option Addr) (cap : Nat) (w : World) (hl : Lies w a (fixN n k)) :
    Calls Try.prog 22 #[.slice a k cap, .int .i64 0, .int .i64 k] w fun e w' =>
      e = .returned (.tuple #[.int .u64 ((n % 256 ^ k : Nat) : Int), .int .i64 k, .int .i64 0]) ∧ w = w' := by
  have h := wide_any a k cap (fixN n k) 0 k w hl (fixN_length n k).symm
  have ho : (1 ≤ (k : Int) ∧ (k : Int) ≤ 8) ∧ (0 ≤ (0 : Int) ∧ (0 : Int) ≤ (fixN n k).length) := ⟨⟨by omega, by omega⟩, by omega, by omega⟩
  have h2 : (k : Int) ≤ ((fixN n k).length : Int) - 0 := by rw [fixN_length]; omega
  unfold wN wP wE at h
  simp only [ho, h2, and_self, if_true] at h
  rw [Int.toNat_natCast, show (0 : Int).toNat = 0 from rfl, List.drop_zero, List.take_of_length_le (by rw [fixN_length]; omega), wid_fixN, Int.zero_add] at h
  exact h

theorem pow_wrap (k : Nat) (h : k ≤ 7) : IntKind.u64.wrap (2 ^ (8 * k)) = (256 : Int) ^ k := by
  have e2 : (2 : Nat) ^ (8 * k) = 256 ^ k := by rw [Nat.pow_mul]
  have hp : 256 ^ k ≤ 256 ^ 7 := Nat.pow_le_pow_right (by omega) h
  have e3 : (2 : Int) ^ (8 * k) = ((2 ^ (8 * k) : Nat) : Int) := by simp
  rw [e3, u64_id _ (by rw [e2]; omega), e2]; simp
/-- One call behind the other: what was there ahead of the first is there behind the second. -/
theorem below_chain {B : Nat} {w w1 w2 : World} (h1 : Below B w w1) (h2 : Below w1.heap.size w1 w2) (hB : B ≤ w.heap.size) : Below B w w2 :=
  h1.trans (h2.mono (Nat.le_trans hB h1.size))
theorem below_drawn {B : Nat} {w w1 : World} (h : Below B w w1) (n : Nat) : Below B w (w1.drewN n) := ⟨h.os, h.tape, h.output, h.size, h.block⟩
theorem below_chain2 {w w1 w2 w3 : World} (h1 : Below w.heap.size w w1) (h2 : Below w1.heap.size w1 w2) (h3 : Below w2.heap.size w2 w3) : Below w.heap.size w w3 :=
  below_chain (below_chain h1 h2 (Nat.le_refl _)) h3 (Nat.le_refl _)

set_option maxRecDepth 100000 in
set_option maxHeartbeats 400000 in
theorem order_walk (n m k : Nat) (z : Int) (w : World) (hn : n < 18446744073709551616) (hm : m < 18446744073709551616) (hnm : n ≤ m) (hz : z.tmod 8 = (k : Int)) (hk1 : 1 ≤ k) (hk : k ≤ 7) :
    Calls Try.prog 7 #[.int .u64 n, .int .u64 m, .int .i64 z] w fun e w' => e = .returned (.bool true) ∧ Below w.heap.size w w' := by
  go_enter Try.func7, Try.ntmps7
  go_wp2_with fail
  refine (fixed_of _ _ n 8 rfl rfl hn (by omega) (by omega) _).mono ?_
  rintro e w1 ⟨g1, rfl, hown1, hbel1⟩
  go_wp2_with fail
  refine (fixed_of _ _ n k rfl rfl hn hk1 (by omega) _).mono ?_
  rintro e w2 ⟨g2, rfl, hown2, hbel2⟩
  go_wp2_with fail
  have hb8 := fixN_byte n 8
  have hbk := fixN_byte n k
  have l1 : Lies w1 (some ⟨g1, 0, none⟩) (fixN n 8) := lies_of_owns (by rw [fixN_length]) hown1 hb8 (by rw [fixN_length]; omega)
  have l2 : Lies w2 (some ⟨g2, 0, none⟩) (fixN n k) := lies_of_owns (by rw [fixN_length]) hown2 hbk (by rw [fixN_length]; omega)
  have hg1 := (hown1.lt g1 rfl).2
  have l1' : Lies w2 (some ⟨g1, 0, none⟩) (fixN n 8) := lies_below l1 hbel2 hg1
  have l1k : Lies w2 (some ⟨g1, 0, none⟩) (fixN n k) := by rw [← fixN_take n 8 k (by omega)]; exact lies_take l1' k
  have c1 := fun j => conv_any (L := k) (cap := 8) (lies_drewN l1k j) (fixN_length n k).symm
  have c2 := fun j => conv_any (L := k) (cap := k) (lies_drewN l2 j) (fixN_length n k).symm
  have H2 : Hid (Lies w2 (some ⟨g2, 0, none⟩) (fixN n k)) := l2
  have HB : Hid (Below w.heap.size w w2) := hbel1.trans (hbel2.mono hbel1.size)
  clear hb8 hbk l1 l2 l1' l1k hown1 hown2 hbel1 hbel2 hg1
  go_quiet (fail)
  go_wp2_with fail
  refine (wide_fix n k hk1 hk (some ⟨g2, 0, none⟩) k _ (lies_drewN H2.out _)).mono ?_
  rintro e w3 ⟨rfl, rfl⟩
  have hwr : IntKind.u64.wrap (2 ^ (8 * k)) = (256 : Int) ^ k := pow_wrap k hk
  have hne : ¬ (256 : Int) ^ k = 0 := Int.ne_of_gt (Int.pow_pos (by decide))
  go_wp2_with fail
  refine (put_of _ n rfl hn _).mono ?_
  rintro e w4 ⟨g4, rfl, hown4, hbel4⟩
  clear hown4
  go_wp2_with fail
  refine (put_of _ m rfl hm _).mono ?_
  rintro e w5 ⟨g5, rfl, hown5, hbel5⟩
  clear hown5
  have hmono : ((putN n).length : Int) ≤ ((putN m).length : Int) := by have := plen_mono n m hnm; omega
  go_wp2_with fail
  refine (works_any _).mono ?_
  rintro e w6 ⟨rfl, hbel6⟩
  go_wp2
  go_ret
  exact ⟨rfl, below_chain (below_drawn HB.out nq) (below_chain2 hbel4 hbel5 hbel6) (Nat.le_refl _)⟩

set_option maxRecDepth 100000 in
set_option maxHeartbeats 400000 in
theorem order_walkN (n m k : Nat) (z : Int) (w : World) (hn : n < 18446744073709551616) (hm : m < 18446744073709551616) (hnm : n ≤ m) (hneg : z.tmod 8 < 0) (hz : z.tmod 8 + 8 = (k : Int)) (hk1 : 1 ≤ k) (hk : k ≤ 7) :
    Calls Try.prog 7 #[.int .u64 n, .int .u64 m, .int .i64 z] w fun e w' => e = .returned (.bool true) ∧ Below w.heap.size w w' := by
  go_enter Try.func7, Try.ntmps7
  go_wp2_with fail
  try simp only [hz]
  refine (fixed_of _ _ n 8 rfl rfl hn (by omega) (by omega) _).mono ?_
  rintro e w1 ⟨g1, rfl, hown1, hbel1⟩
  go_wp2_with fail
  refine (fixed_of _ _ n k rfl rfl hn hk1 (by omega) _).mono ?_
  rintro e w2 ⟨g2, rfl, hown2, hbel2⟩
  go_wp2_with fail
  have hb8 := fixN_byte n 8
  have hbk := fixN_byte n k
  have l1 : Lies w1 (some ⟨g1, 0, none⟩) (fixN n 8) := lies_of_owns (by rw [fixN_length]) hown1 hb8 (by rw [fixN_length]; omega)
  have l2 : Lies w2 (some ⟨g2, 0, none⟩) (fixN n k) := lies_of_owns (by rw [fixN_length]) hown2 hbk (by rw [fixN_length]; omega)
  have hg1 := (hown1.lt g1 rfl).2
  have l1' : Lies w2 (some ⟨g1, 0, none⟩) (fixN n 8) := lies_below l1 hbel2 hg1
  have l1k : Lies w2 (some ⟨g1, 0, none⟩) (fixN n k) := by rw [← fixN_take n 8 k (by omega)]; exact lies_take l1' k
  have c1 := fun j => conv_any (L := k) (cap := 8) (lies_drewN l1k j) (fixN_length n k).symm
  have c2 := fun j => conv_any (L := k) (cap := k) (lies_drewN l2 j) (fixN_length n k).symm
  have H2 : Hid (Lies w2 (some ⟨g2, 0, none⟩) (fixN n k)) := l2
  have HB : Hid (Below w.heap.size w w2) := hbel1.trans (hbel2.mono hbel1.size)
  clear hb8 hbk l1 l2 l1' l1k hown1 hown2 hbel1 hbel2 hg1
  go_quiet (fail)
  go_wp2_with fail
  refine (wide_fix n k hk1 hk (some ⟨g2, 0, none⟩) k _ (lies_drewN H2.out _)).mono ?_
  rintro e w3 ⟨rfl, rfl⟩
  have hwr : IntKind.u64.wrap (2 ^ (8 * k)) = (256 : Int) ^ k := pow_wrap k hk
  have hne : ¬ (256 : Int) ^ k = 0 := Int.ne_of_gt (Int.pow_pos (by decide))
  go_wp2_with fail
  refine (put_of _ n rfl hn _).mono ?_
  rintro e w4 ⟨g4, rfl, hown4, hbel4⟩
  clear hown4
  go_wp2_with fail
  refine (put_of _ m rfl hm _).mono ?_
  rintro e w5 ⟨g5, rfl, hown5, hbel5⟩
  clear hown5
  have hmono : ((putN n).length : Int) ≤ ((putN m).length : Int) := by have := plen_mono n m hnm; omega
  go_wp2_with fail
  refine (works_any _).mono ?_
  rintro e w6 ⟨rfl, hbel6⟩
  go_wp2
  go_ret
  exact ⟨rfl, below_chain (below_drawn HB.out nq) (below_chain2 hbel4 hbel5 hbel6) (Nat.le_refl _)⟩

set_option maxRecDepth 100000 in
set_option maxHeartbeats 400000 in
theorem order_walkZ (n m : Nat) (z : Int) (w : World) (hn : n < 18446744073709551616) (hm : m < 18446744073709551616) (hnm : n ≤ m) (hz : z.tmod 8 = 0) :
    Calls Try.prog 7 #[.int .u64 n, .int .u64 m, .int .i64 z] w fun e w' => e = .returned (.bool true) ∧ Below w.heap.size w w' := by
  go_enter Try.func7, Try.ntmps7
  go_wp2_with fail
  refine (fixed_of _ _ n 8 rfl rfl hn (by omega) (by omega) _).mono ?_
  rintro e w1 ⟨g1, rfl, hown1, hbel1⟩
  go_wp2_with fail
  refine (fixed_none _ _ _ (by omega)).mono ?_
  rintro e w2 ⟨rfl, rfl⟩
  go_wp2_with fail
  have hb8 := fixN_byte n 8
  have l1 : Lies w1 (some ⟨g1, 0, none⟩) (fixN n 8) := lies_of_owns (by rw [fixN_length]) hown1 hb8 (by rw [fixN_length]; omega)
  have l1k : Lies w1 (some ⟨g1, 0, none⟩) [] := lies_take l1 0
  have l2 : Lies w1 none [] := ⟨by simp, by simp, .inl rfl⟩
  have c1 := fun j => conv_any (L := 0) (cap := 8) (lies_drewN l1k j) rfl
  have c2 := fun j => conv_any (L := 0) (cap := 0) (lies_drewN l2 j) rfl
  have HB : Hid (Below w.heap.size w w1) := hbel1
  clear hb8 l1 l1k l2 hown1 hbel1
  go_quiet (fail)
  go_wp2_with fail
  refine (wide_bad none [] 0 0 0 0 _ (by omega) rfl (by omega)).mono ?_
  rintro e w3 ⟨rfl, rfl⟩
  go_wp2_with fail
  refine (put_of _ n rfl hn _).mono ?_
  rintro e w4 ⟨g4, rfl, hown4, hbel4⟩
  clear hown4
  go_wp2_with fail
  refine (put_of _ m rfl hm _).mono ?_
  rintro e w5 ⟨g5, rfl, hown5, hbel5⟩
  clear hown5
  have hmono : ((putN n).length : Int) ≤ ((putN m).length : Int) := by have := plen_mono n m hnm; omega
  go_wp2_with fail
  refine (works_any _).mono ?_
  rintro e w6 ⟨rfl, hbel6⟩
  go_wp2
  go_ret
  exact ⟨rfl, below_chain (below_drawn HB.out nq) (below_chain2 hbel4 hbel5 hbel6) (Nat.le_refl _)⟩

set_option maxRecDepth 100000 in
set_option maxHeartbeats 400000 in
theorem order_walkS (n m k : Nat) (z : Int) (w : World) (hn : n < 18446744073709551616) (hm : m < 18446744073709551616) (hnm : n < m) (hz : z.tmod 8 = (k : Int)) (hk1 : 1 ≤ k) (hk : k ≤ 7) :
    Calls Try.prog 7 #[.int .u64 m, .int .u64 n, .int .i64 z] w fun e w' => e = .returned (.bool true) ∧ Below w.heap.size w w' := by
  go_enter Try.func7, Try.ntmps7
  go_wp2_with fail
  refine (fixed_of _ _ n 8 rfl rfl hn (by omega) (by omega) _).mono ?_
  rintro e w1 ⟨g1, rfl, hown1, hbel1⟩
  go_wp2_with fail
  refine (fixed_of _ _ n k rfl rfl hn hk1 (by omega) _).mono ?_
  rintro e w2 ⟨g2, rfl, hown2, hbel2⟩
  go_wp2_with fail
  have hb8 := fixN_byte n 8
  have hbk := fixN_byte n k
  have l1 : Lies w1 (some ⟨g1, 0, none⟩) (fixN n 8) := lies_of_owns (by rw [fixN_length]) hown1 hb8 (by rw [fixN_length]; omega)
  have l2 : Lies w2 (some ⟨g2, 0, none⟩) (fixN n k) := lies_of_owns (by rw [fixN_length]) hown2 hbk (by rw [fixN_length]; omega)
  have hg1 := (hown1.lt g1 rfl).2
  have l1' : Lies w2 (some ⟨g1, 0, none⟩) (fixN n 8) := lies_below l1 hbel2 hg1
  have l1k : Lies w2 (some ⟨g1, 0, none⟩) (fixN n k) := by rw [← fixN_take n 8 k (by omega)]; exact lies_take l1' k
  have c1 := fun j => conv_any (L := k) (cap := 8) (lies_drewN l1k j) (fixN_length n k).symm
  have c2 := fun j => conv_any (L := k) (cap := k) (lies_drewN l2 j) (fixN_length n k).symm
  have H2 : Hid (Lies w2 (some ⟨g2, 0, none⟩) (fixN n k)) := l2
  have HB : Hid (Below w.heap.size w w2) := hbel1.trans (hbel2.mono hbel1.size)
  clear hb8 hbk l1 l2 l1' l1k hown1 hown2 hbel1 hbel2 hg1
  go_quiet (fail)
  go_wp2_with fail
  refine (wide_fix n k hk1 hk (some ⟨g2, 0, none⟩) k _ (lies_drewN H2.out _)).mono ?_
  rintro e w3 ⟨rfl, rfl⟩
  have hwr : IntKind.u64.wrap (2 ^ (8 * k)) = (256 : Int) ^ k := pow_wrap k hk
  have hne : ¬ (256 : Int) ^ k = 0 := Int.ne_of_gt (Int.pow_pos (by decide))
  go_wp2_with fail
  refine (put_of _ n rfl hn _).mono ?_
  rintro e w4 ⟨g4, rfl, hown4, hbel4⟩
  clear hown4
  go_wp2_with fail
  refine (put_of _ m rfl hm _).mono ?_
  rintro e w5 ⟨g5, rfl, hown5, hbel5⟩
  clear hown5
  have hmono : ((putN n).length : Int) ≤ ((putN m).length : Int) := by have := plen_mono n m (by omega); omega
  go_wp2_with fail
  refine (works_any _).mono ?_
  rintro e w6 ⟨rfl, hbel6⟩
  go_wp2
  go_ret
  exact ⟨rfl, below_chain (below_drawn HB.out nq) (below_chain2 hbel4 hbel5 hbel6) (Nat.le_refl _)⟩

set_option maxRecDepth 100000 in
set_option maxHeartbeats 400000 in
theorem order_walkSN (n m k : Nat) (z : Int) (w : World) (hn : n < 18446744073709551616) (hm : m < 18446744073709551616) (hnm : n < m) (hneg : z.tmod 8 < 0) (hz : z.tmod 8 + 8 = (k : Int)) (hk1 : 1 ≤ k) (hk : k ≤ 7) :
    Calls Try.prog 7 #[.int .u64 m, .int .u64 n, .int .i64 z] w fun e w' => e = .returned (.bool true) ∧ Below w.heap.size w w' := by
  go_enter Try.func7, Try.ntmps7
  go_wp2_with fail
  try simp only [hz]
  refine (fixed_of _ _ n 8 rfl rfl hn (by omega) (by omega) _).mono ?_
  rintro e w1 ⟨g1, rfl, hown1, hbel1⟩
  go_wp2_with fail
  refine (fixed_of _ _ n k rfl rfl hn hk1 (by omega) _).mono ?_
  rintro e w2 ⟨g2, rfl, hown2, hbel2⟩
  go_wp2_with fail
  have hb8 := fixN_byte n 8
  have hbk := fixN_byte n k
  have l1 : Lies w1 (some ⟨g1, 0, none⟩) (fixN n 8) := lies_of_owns (by rw [fixN_length]) hown1 hb8 (by rw [fixN_length]; omega)
  have l2 : Lies w2 (some ⟨g2, 0, none⟩) (fixN n k) := lies_of_owns (by rw [fixN_length]) hown2 hbk (by rw [fixN_length]; omega)
  have hg1 := (hown1.lt g1 rfl).2
  have l1' : Lies w2 (some ⟨g1, 0, none⟩) (fixN n 8) := lies_below l1 hbel2 hg1
  have l1k : Lies w2 (some ⟨g1, 0, none⟩) (fixN n k) := by rw [← fixN_take n 8 k (by omega)]; exact lies_take l1' k
  have c1 := fun j => conv_any (L := k) (cap := 8) (lies_drewN l1k j) (fixN_length n k).symm
  have c2 := fun j => conv_any (L := k) (cap := k) (lies_drewN l2 j) (fixN_length n k).symm
  have H2 : Hid (Lies w2 (some ⟨g2, 0, none⟩) (fixN n k)) := l2
  have HB : Hid (Below w.heap.size w w2) := hbel1.trans (hbel2.mono hbel1.size)
  clear hb8 hbk l1 l2 l1' l1k hown1 hown2 hbel1 hbel2 hg1
  go_quiet (fail)
  go_wp2_with fail
  refine (wide_fix n k hk1 hk (some ⟨g2, 0, none⟩) k _ (lies_drewN H2.out _)).mono ?_
  rintro e w3 ⟨rfl, rfl⟩
  have hwr : IntKind.u64.wrap (2 ^ (8 * k)) = (256 : Int) ^ k := pow_wrap k hk
  have hne : ¬ (256 : Int) ^ k = 0 := Int.ne_of_gt (Int.pow_pos (by decide))
  go_wp2_with fail
  refine (put_of _ n rfl hn _).mono ?_
  rintro e w4 ⟨g4, rfl, hown4, hbel4⟩
  clear hown4
  go_wp2_with fail
  refine (put_of _ m rfl hm _).mono ?_
  rintro e w5 ⟨g5, rfl, hown5, hbel5⟩
  clear hown5
  have hmono : ((putN n).length : Int) ≤ ((putN m).length : Int) := by have := plen_mono n m (by omega); omega
  go_wp2_with fail
  refine (works_any _).mono ?_
  rintro e w6 ⟨rfl, hbel6⟩
  go_wp2
  go_ret
  exact ⟨rfl, below_chain (below_drawn HB.out nq) (below_chain2 hbel4 hbel5 hbel6) (Nat.le_refl _)⟩

set_option maxRecDepth 100000 in
set_option maxHeartbeats 400000 in
theorem order_walkSZ (n m : Nat) (z : Int) (w : World) (hn : n < 18446744073709551616) (hm : m < 18446744073709551616) (hnm : n < m) (hz : z.tmod 8 = 0) :
    Calls Try.prog 7 #[.int .u64 m, .int .u64 n, .int .i64 z] w fun e w' => e = .returned (.bool true) ∧ Below w.heap.size w w' := by
  go_enter Try.func7, Try.ntmps7
  go_wp2_with fail
  refine (fixed_of _ _ n 8 rfl rfl hn (by omega) (by omega) _).mono ?_
  rintro e w1 ⟨g1, rfl, hown1, hbel1⟩
  go_wp2_with fail
  refine (fixed_none _ _ _ (by omega)).mono ?_
  rintro e w2 ⟨rfl, rfl⟩
  go_wp2_with fail
  have hb8 := fixN_byte n 8
  have l1 : Lies w1 (some ⟨g1, 0, none⟩) (fixN n 8) := lies_of_owns (by rw [fixN_length]) hown1 hb8 (by rw [fixN_length]; omega)
  have l1k : Lies w1 (some ⟨g1, 0, none⟩) [] := lies_take l1 0
  have l2 : Lies w1 none [] := ⟨by simp, by simp, .inl rfl⟩
  have c1 := fun j => conv_any (L := 0) (cap := 8) (lies_drewN l1k j) rfl
  have c2 := fun j => conv_any (L := 0) (cap := 0) (lies_drewN l2 j) rfl
  have HB : Hid (Below w.heap.size w w1) := hbel1
  clear hb8 l1 l1k l2 hown1 hbel1
  go_quiet (fail)
  go_wp2_with fail
  refine (wide_bad none [] 0 0 0 0 _ (by omega) rfl (by omega)).mono ?_
  rintro e w3 ⟨rfl, rfl⟩
  go_wp2_with fail
  refine (put_of _ n rfl hn _).mono ?_
  rintro e w4 ⟨g4, rfl, hown4, hbel4⟩
  clear hown4
  go_wp2_with fail
  refine (put_of _ m rfl hm _).mono ?_
  rintro e w5 ⟨g5, rfl, hown5, hbel5⟩
  clear hown5
  have hmono : ((putN n).length : Int) ≤ ((putN m).length : Int) := by have := plen_mono n m (by omega); omega
  go_wp2_with fail
  refine (works_any _).mono ?_
  rintro e w6 ⟨rfl, hbel6⟩
  go_wp2
  go_ret
  exact ⟨rfl, below_chain (below_drawn HB.out nq) (below_chain2 hbel4 hbel5 hbel6) (Nat.le_refl _)⟩

end Go.Proofs.Ytekoeeneebolbaa
