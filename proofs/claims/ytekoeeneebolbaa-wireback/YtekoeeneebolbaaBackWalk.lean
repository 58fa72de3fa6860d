/-
  THE WALK of WireBack.
-/
import Derived.Test.YtekoeeneebolbaaBackMath
namespace Go.Proofs.Ytekoeeneebolbaa
open Go.RowKit

theorem fixed_of (x s : Int) (n k : Nat) (hx : x = n) (hs : s = k) (h : n < 18446744073709551616) (h1 : 1 ≤ k) (h8 : k ≤ 8) (w : World) :
    Calls Try.prog 11 #[.int .u64 x, .int .i64 s] w fun e w' => ∃ g, e = .returned (.slice (some ⟨g, 0, none⟩) k k) ∧
      w'.ownsRow w.heap.size 5 1 (.slice (some ⟨g, 0, none⟩) k k) k (nums (fixN n k)) ∧ Below w.heap.size w w' := by
  subst hx; subst hs; exact fixed_any n k w h h1 h8
theorem wrap64_bd (x : Int) : -9223372036854775808 ≤ wrap64 x ∧ wrap64 x ≤ 9223372036854775807 := by unfold wrap64; omega

def At (w : World) (a : Option Addr) (xs : List Nat) : Prop := Lies w a xs ∧ (1 ≤ xs.length → ∃ b off, a = some ⟨b, off, none⟩ ∧ b < w.heap.size)
theorem At.kept {w w' : World} {a : Option Addr} {xs : List Nat} (h : At w a xs) (hb : Below w.heap.size w w') : At w' a xs := by
  refine ⟨lies_kept h.1 hb fun b off he h1 => ?_, fun h1 => ?_⟩
  · obtain ⟨b', off', e, hlt⟩ := h.2 h1
    rw [he] at e; cases e; exact hlt
  · obtain ⟨b', off', e, hlt⟩ := h.2 h1
    exact ⟨b', off', e, Nat.lt_of_lt_of_le hlt hb.size⟩
theorem At.below {w w' : World} {B : Nat} {a : Option Addr} {xs : List Nat} (h : At w a xs) (hb : Below B w w') (hB : B = w.heap.size) : At w' a xs := by subst hB; exact h.kept hb
theorem at_of_owns {w : World} {B g cap : Nat} {xs : List Nat} {n : Nat} (hn : n = xs.length) (h : w.ownsRow B 5 1 (.slice (some ⟨g, 0, none⟩) n cap) n (nums xs)) (hb : ∀ c ∈ xs, c < 256) (hm : xs.length ≤ 9223372036854775807) :
    At w (some ⟨g, 0, none⟩) xs :=
  ⟨lies_of_owns hn h hb hm, fun _ => ⟨g, 0, rfl, (h.lt g rfl).2⟩⟩

theorem put_as (x : Int) (n s : Nat) (P : List Nat) (hx : x = n) (h : n < 18446744073709551616) (hP : P = putN n) (hs : s = P.length) (w : World) :
    Calls Try.prog 9 #[.int .u64 x] w fun e w' => ∃ g, e = .returned (.slice (some ⟨g, 0, none⟩) s s) ∧ At w' (some ⟨g, 0, none⟩) P ∧ Below w.heap.size w w' := by
  subst hP; subst hs
  refine (put_of x n hx h w).mono ?_
  rintro e w1 ⟨g, rfl, hown, hb⟩
  exact ⟨g, rfl, at_of_owns rfl hown (putN_byte n) (by have := plen_ten h; omega), hb⟩
theorem putInt_as (x : Int) (s : Nat) (P : List Nat) (h1 : -9223372036854775808 ≤ x) (h2 : x ≤ 9223372036854775807) (hP : P = putN (zag x)) (hs : s = P.length) (w : World) :
    Calls Try.prog 10 #[.int .i64 x] w fun e w' => ∃ g, e = .returned (.slice (some ⟨g, 0, none⟩) s s) ∧ At w' (some ⟨g, 0, none⟩) P ∧ Below w.heap.size w w' := by
  subst hP; subst hs
  refine (putInt_any x w h1 h2).mono ?_
  rintro e w1 ⟨g, rfl, hown, hb⟩
  exact ⟨g, rfl, at_of_owns rfl hown (putN_byte _) (by have := plen_ten (zag_lt h1 (by omega : x < 9223372036854775808)); omega), hb⟩
theorem fixed_as (x z : Int) (n k : Nat) (hx : x = n) (hz : z = k) (h : n < 18446744073709551616) (h1 : 1 ≤ k) (h8 : k ≤ 8) (w : World) :
    Calls Try.prog 11 #[.int .u64 x, .int .i64 z] w fun e w' => ∃ g, e = .returned (.slice (some ⟨g, 0, none⟩) k k) ∧ At w' (some ⟨g, 0, none⟩) (fixN n k) ∧ Below w.heap.size w w' := by
  refine (fixed_of x z n k hx hz h h1 h8 w).mono ?_
  rintro e w1 ⟨g, rfl, hown, hb⟩
  exact ⟨g, rfl, at_of_owns (fixN_length n k).symm hown (fixN_byte n k) (by rw [fixN_length]; omega), hb⟩
theorem get_as (a : Option Addr) (L cap : Nat) (xs : List Nat) (p : Int) (w : World) (hl : Lies w a xs) (hL : L = xs.length) (N P E : Int) (h1 : ((gN xs p : Nat) : Int) = N) (h2 : gP xs p = P) (h3 : gE xs p = E) :
    Calls Try.prog 18 #[.slice a L cap, .int .i64 p] w fun e w' => e = .returned (.tuple #[.int .u64 N, .int .i64 P, .int .i64 E]) ∧ w = w' := by
  subst h1; subst h2; subst h3; exact get_any a L cap xs p w hl hL
theorem getInt_as (a : Option Addr) (L cap : Nat) (xs : List Nat) (p : Int) (w : World) (hl : Lies w a xs) (hL : L = xs.length) (N P E : Int) (h1 : zig (gN xs p) = N) (h2 : gP xs p = P) (h3 : gE xs p = E) :
    Calls Try.prog 20 #[.slice a L cap, .int .i64 p] w fun e w' => e = .returned (.tuple #[.int .i64 N, .int .i64 P, .int .i64 E]) ∧ w = w' := by
  subst h1; subst h2; subst h3; exact getInt_any a L cap xs p w hl hL
theorem wide_as (a : Option Addr) (L cap : Nat) (xs : List Nat) (p z : Int) (w : World) (hl : Lies w a xs) (hL : L = xs.length) (N P E : Int) (h1 : ((wN xs p z : Nat) : Int) = N) (h2 : wP xs p z = P) (h3 : wE xs p z = E) :
    Calls Try.prog 22 #[.slice a L cap, .int .i64 p, .int .i64 z] w fun e w' => e = .returned (.tuple #[.int .u64 N, .int .i64 P, .int .i64 E]) ∧ w = w' := by
  subst h1; subst h2; subst h3; exact wide_any a L cap xs p z w hl hL
theorem owned_form {w : World} {B n : Nat} {v : Value} {xs : List Value} (h : w.ownsRow B 5 1 v n xs) (hn : 1 ≤ n) : ∃ g cap, v = .slice (some ⟨g, 0, none⟩) n cap := by
  rcases h.2 with ⟨_, h0⟩ | ⟨g, cap, _, hv, _⟩
  · omega
  · exact ⟨g, cap, hv⟩

def BackRel (s : Nat) (i : Value) : Prop := ∃ k : Nat, k ≤ s ∧ i = .int .i64 k
theorem lies_take {w : World} {a : Option Addr} {xs : List Nat} (h : Lies w a xs) (k : Nat) : Lies w a (xs.take k) := by
  obtain ⟨h1, h2, h3⟩ := h
  refine ⟨fun c hc => h1 c (List.mem_of_mem_take hc), by rw [List.length_take]; omega, ?_⟩
  rcases h3 with rfl | ⟨b, off, rfl, hc⟩
  · exact .inl (by simp)
  · refine .inr ⟨b, off, rfl, fun i hi => ?_⟩
    rw [List.length_take] at hi
    rw [hc i (by omega)]
    simp [List.getD, show i < k by omega]

set_option maxRecDepth 100000 in
set_option maxHeartbeats 2000000 in
theorem back_walk (n : Nat) (a1 a2 : Option Addr) (l1 c1 l2 c2 : Nat) (xs ys : List Nat) (w : World) (hn : n < 18446744073709551616)
    (hl1 : At w a1 xs) (hx : l1 = xs.length) (hno1 : a1 = none → c1 = 0) (hl2 : At w a2 ys) (hy : l2 = ys.length) (hno2 : a2 = none → c2 = 0)
    (h41 : l1 ≤ 4096) (h42 : l2 ≤ 4096) :
    Calls Try.prog 5 #[.int .u64 n, .slice a1 l1 c1, .slice a2 l2 c2] w fun e w' => e = .returned (.bool true) ∧ Below w.heap.size w w' := by
  have X1 : Hid (At w a1 xs) := hl1
  have X2 : Hid (At w a2 ys) := hl2
  have N1 : Hid (a1 = none → c1 = 0) := hno1
  have N2 : Hid (a2 = none → c2 = 0) := hno2
  have L1 : Hid (l1 = xs.length) := hx
  have L2 : Hid (l2 = ys.length) := hy
  clear hl1 hl2 hno1 hno2 hx hy
  have hw := wrap64_bd n
  obtain ⟨m, hm⟩ : ∃ m, m = wrap64 (n : Int) := ⟨_, rfl⟩
  have HM : Hid (wrap64 (n : Int) = m) := hm.symm
  rw [← hm] at hw
  clear hm
  obtain ⟨P, hP⟩ : ∃ P, P = putN n := ⟨_, rfl⟩
  obtain ⟨s, hs⟩ : ∃ s, s = P.length := ⟨_, rfl⟩
  obtain ⟨R, hR⟩ : ∃ R, R = putN (zag m) := ⟨_, rfl⟩
  obtain ⟨t, ht⟩ : ∃ t, t = R.length := ⟨_, rfl⟩
  have HP : Hid (P = putN n) := hP
  have HS : Hid (s = P.length) := hs
  have HR : Hid (R = putN (zag m)) := hR
  have HT : Hid (t = R.length) := ht
  have s1 : 1 ≤ s := by rw [hs, hP]; exact plen_pos n
  have s10 : s ≤ 10 := by rw [hs, hP]; exact plen_ten hn
  have t1 : 1 ≤ t := by rw [ht, hR]; exact plen_pos _
  have hz : zag m < 18446744073709551616 := zag_lt hw.1 (by omega)
  have t10 : t ≤ 10 := by rw [ht, hR]; exact plen_ten hz
  clear hP hs hR ht
  go_enter Try.func5, Try.ntmps5
  go_wp2_with fail
  refine (put_as _ n s P rfl hn HP.out HS.out _).mono ?_
  rintro e w1 ⟨g1, rfl, hat1, hb1⟩
  have S1 : Hid (At w1 (some ⟨g1, 0, none⟩) P) := hat1
  have B1 : Hid (Below w.heap.size w w1) := hb1
  clear hat1 hb1
  go_wp2_with fail
  simp only [HM.out]
  refine (putInt_as m t R hw.1 hw.2 HR.out HT.out _).mono ?_
  rintro e w2 ⟨g2, rfl, hat2, hb2⟩
  have S2 : Hid (At w2 (some ⟨g2, 0, none⟩) R) := hat2
  have B2 : Hid (Below w1.heap.size w1 w2) := hb2
  clear hat2 hb2
  go_wp2_with fail
  refine (fixed_as _ _ n 8 rfl rfl hn (by omega) (by omega) _).mono ?_
  rintro e w3 ⟨g3, rfl, hat3, hb3⟩
  have S3 : Hid (At w3 (some ⟨g3, 0, none⟩) (fixN n 8)) := hat3
  have Y1 : Hid (At w3 a1 xs) := ((X1.out.kept B1.out).kept B2.out).kept hb3
  have Y2 : Hid (At w3 a2 ys) := ((X2.out.kept B1.out).kept B2.out).kept hb3
  have T1 : Hid (At w3 (some ⟨g1, 0, none⟩) P) := (S1.out.kept B2.out).kept hb3
  have T2 : Hid (At w3 (some ⟨g2, 0, none⟩) R) := S2.out.kept hb3
  have BB : Hid (Below w.heap.size w w3) := below_chain (below_chain B1.out B2.out (Nat.le_refl _)) hb3 (Nat.le_refl _)
  clear hat3 hb3 X1 X2 S1 S2 B1 B2
  obtain ⟨B, hB⟩ : ∃ B, B = w3.heap.size := ⟨_, rfl⟩
  have HB : Hid (B = w3.heap.size) := hB
  clear hB
  go_wp2_with (first | (at_builtin; refine wpList_app rfl (.tmp 41) (.tmp 42) rfl B (.slice none 0 0) 0 [] rfl (World.ownsRow_nil _ _ _ _) a1 l1 c1 xs rfl Y1.out.1 L1.out N1.out (by omega) (by rw [HB.out]; exact Nat.le_refl _) ?_; intro v4 w4 own4 below4; have bl4 : Hid (Below B w3 w4) := below4) | (at_builtin; refine wpList_app rfl (.tmp 44) (.tmp 45) rfl B v4 (0 + l1) ([] ++ xs) rfl own4 (some ⟨g1, 0, none⟩) s s P rfl (T1.out.below bl4.out HB.out).1 HS.out (fun h => (Option.some_ne_none _ h).elim) (by omega) (by rw [HB.out]; exact bl4.out.size) ?_; intro v5 w5 own5 below5; have bl5 : Hid (Below B w3 w5) := bl4.out.trans below5) | (at_builtin; refine wpList_app rfl (.tmp 47) (.tmp 48) rfl B v5 (0 + l1 + s) ([] ++ xs ++ P) rfl own5 (some ⟨g2, 0, none⟩) t t R rfl (T2.out.below bl5.out HB.out).1 HT.out (fun h => (Option.some_ne_none _ h).elim) (by omega) (by rw [HB.out]; exact bl5.out.size) ?_; intro v6 w6 own6 below6; have bl6 : Hid (Below B w3 w6) := bl5.out.trans below6) | (at_builtin; refine wpList_app rfl (.tmp 50) (.tmp 51) rfl B v6 (0 + l1 + s + t) ([] ++ xs ++ P ++ R) rfl own6 (some ⟨g3, 0, none⟩) 8 8 (fixN n 8) rfl (S3.out.below bl6.out HB.out).1 (fixN_length n 8).symm (fun h => (Option.some_ne_none _ h).elim) (by omega) (by rw [HB.out]; exact bl6.out.size) ?_; intro v7 w7 own7 below7; have bl7 : Hid (Below B w3 w7) := bl6.out.trans below7) | (at_builtin; refine wpList_app rfl (.tmp 53) (.tmp 54) rfl B v7 (0 + l1 + s + t + 8) ([] ++ xs ++ P ++ R ++ fixN n 8) rfl own7 a2 l2 c2 ys rfl (Y2.out.below bl7.out HB.out).1 L2.out N2.out (by omega) (by rw [HB.out]; exact bl7.out.size) ?_; intro v8 w8 own8 below8; have bl8 : Hid (Below B w3 w8) := bl7.out.trans below8))
  obtain ⟨g, cap, hv⟩ := owned_form own8 (by omega)
  subst hv
  obtain ⟨Z, hZ⟩ : ∃ Z, Z = [] ++ xs ++ P ++ R ++ fixN n 8 ++ ys := ⟨_, rfl⟩
  rw [← hZ] at own8
  obtain ⟨N, hN⟩ : ∃ N, N = 0 + l1 + s + t + 8 + l2 := ⟨_, rfl⟩
  rw [← hN] at own8
  have hlen : N = Z.length := by
    rw [hN, hZ, L1.out, L2.out, HS.out, HT.out]
    simp only [List.length_append, List.length_nil, fixN_length]
  have hbytes : ∀ c ∈ Z, c < 256 := by
    intro c hc
    rw [hZ] at hc
    simp only [List.nil_append, List.mem_append] at hc
    rcases hc with (((hc | hc) | hc) | hc) | hc
    · exact Y1.out.1.1 c hc
    · exact T1.out.1.1 c hc
    · exact T2.out.1.1 c hc
    · exact fixN_byte n 8 c hc
    · exact Y2.out.1.1 c hc
  have LZ : Hid (Lies w8 (some ⟨g, 0, none⟩) Z) := lies_of_owns hlen own8 hbytes (by omega)
  have HN : Hid (N = Z.length) := hlen
  have z1 : Z = xs ++ putN n ++ (R ++ fixN n 8 ++ ys) := by rw [hZ, HP.out]; simp
  have z2 : Z = (xs ++ P) ++ putN (zag m) ++ (fixN n 8 ++ ys) := by rw [hZ, HR.out]; simp
  have z3 : Z = (xs ++ P ++ R) ++ fixN n 8 ++ ys := by rw [hZ]; simp
  have q1 := gets_at xs (R ++ fixN n 8 ++ ys) n hn l1 (by rw [L1.out])
  have q2 := gets_at (xs ++ P) (fixN n 8 ++ ys) (zag m) hz ((l1 : Int) + s) (by rw [L1.out, HS.out]; simp)
  have q3 := wide_at (xs ++ P ++ R) ys n hn ((l1 : Int) + s + t) (by rw [L1.out, HS.out, HT.out]; simp only [List.length_append]; omega)
  rw [← z1] at q1
  rw [← z2] at q2
  rw [← z3] at q3
  have r1 : gP Z l1 = (l1 : Int) + s := by rw [q1.2.1, ← HP.out, L1.out, HS.out]; simp
  have r2 : gP Z ((l1 : Int) + s) = (l1 : Int) + s + t := by rw [q2.2.1, ← HR.out, L1.out, HS.out, HT.out]; simp
  have G1 : Hid (((gN Z l1 : Nat) : Int) = (n : Int) ∧ gP Z l1 = (l1 : Int) + s ∧ gE Z l1 = 0) := ⟨by rw [q1.1], r1, q1.2.2⟩
  have G2 : Hid (zig (gN Z ((l1 : Int) + s)) = m ∧ gP Z ((l1 : Int) + s) = (l1 : Int) + s + t ∧ gE Z ((l1 : Int) + s) = 0) := ⟨by rw [q2.1]; exact zig_zag m, r2, q2.2.2⟩
  have G3 : Hid (((wN Z ((l1 : Int) + s + t) 8 : Nat) : Int) = (n : Int) ∧ wP Z ((l1 : Int) + s + t) 8 = (l1 : Int) + s + t + 8 ∧ wE Z ((l1 : Int) + s + t) 8 = 0) := ⟨by rw [q3.1], q3.2.1, q3.2.2⟩
  rw [← hN]
  clear own8 hZ hN hlen hbytes z1 z2 z3 q1 q2 q3 r1 r2 own4 own5 own6 own7 below4 below5 below6 below7 below8 bl4 bl5 bl6 bl7
  refine (get_as _ N cap Z l1 _ LZ.out HN.out _ _ _ G1.out.1 G1.out.2.1 G1.out.2.2).mono ?_
  rintro e wx ⟨rfl, rfl⟩
  go_wp2_with fail
  refine (getInt_as _ N cap Z _ _ LZ.out HN.out _ _ _ G2.out.1 G2.out.2.1 G2.out.2.2).mono ?_
  rintro e wx ⟨rfl, rfl⟩
  go_wp2_with fail
  refine (wide_as _ N cap Z _ _ _ LZ.out HN.out _ _ _ G3.out.1 G3.out.2.1 G3.out.2.2).mono ?_
  rintro e wx ⟨rfl, rfl⟩
  have hm' := HM.out
  go_wp2_with fail
  clear hm'
  go_loop [21] (fun i => BackRel s i) (fun i => s - (intOf i).toNat)
  case atStart => exact ⟨0, by omega, rfl⟩
  case round =>
    obtain ⟨k, hk, rfl⟩ := hrel
    by_cases hlt : k < s
    · have hcut := get_cut n k hn (by rw [← HP.out, ← HS.out]; exact hlt)
      have LK : Hid (Lies w8 (some ⟨g1, 0, none⟩) ((putN n).take k)) := by
        have h := lies_take (T1.out.below bl8.out HB.out).1 k
        rw [HP.out] at h; exact h
      have HK : Hid (k = ((putN n).take k).length) := by unfold Hid; rw [List.length_take, ← HP.out, ← HS.out]; omega
      have C1 : Hid (((gN ((putN n).take k) 0 : Nat) : Int) = 0) := by unfold Hid; rw [hcut.1]; rfl
      have C2 : Hid (gP ((putN n).take k) 0 = 0) := hcut.2.1
      have C3 : Hid (gE ((putN n).take k) 0 = 10) := hcut.2.2
      clear hcut
      go_wp2_with fail
      refine (get_as _ k s ((putN n).take k) 0 _ LK.out HK.out _ _ _ C1.out C2.out C3.out).mono ?_
      rintro e wx ⟨rfl, rfl⟩
      go_wp2
      go_round
      case rel => exact ⟨k + 1, by omega, by go_num⟩
      case measure => simp [intOf]; omega
    · have hks : k = s := by omega
      subst hks
      go_wp2_with fail
      refine (works_any _).mono ?_
      rintro e w9 ⟨rfl, hb9⟩
      go_wp2
      go_ret
      exact ⟨rfl, below_chain (below_chain BB.out (by have h := bl8.out; rw [HB.out] at h; exact h) (Nat.le_refl _)) hb9 (Nat.le_refl _)⟩
end Go.Proofs.Ytekoeeneebolbaa
