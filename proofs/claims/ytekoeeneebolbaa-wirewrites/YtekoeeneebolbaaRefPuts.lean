/-
  CONTRACTS of the document's own Put, PutInt, Fixed (trammelref01), and of the law's own 'spoilt'.
-/
import Derived.Test.YtekoeeneebolbaaOnceWalk
namespace Go.Proofs.Ytekoeeneebolbaa
open Go.RowKit

theorem lies_one (w : World) (z : Int) (x : Nat) (hz : z = x) (hx : x < 256) : Lies (w.alloc (.cells #[.int .u8 z] 5)) (some ⟨w.heap.size, 0, none⟩) [x] := by
  subst hz
  refine ⟨fun c hc => by simp at hc; omega, by simp, .inr ⟨_, 0, rfl, fun i hi => ?_⟩⟩
  have h0 : i = 0 := by simpa using hi
  subst h0
  rw [Nat.zero_add, cell_of_row _ w.heap.size 0 _ 5 _ (heap_alloc_new w _)]
  simp [List.getD]

/-- What a call that makes bytes gives: they lie somewhere; nothing old has turned. -/
def Gives (w : World) (xs : List Nat) (e : Ending) (w' : World) : Prop :=
  ∃ v, e = .returned v ∧ w'.ownsRow w.heap.size 5 1 v xs.length (nums xs) ∧ Below w.heap.size w w'

def RPutRel (n B : Nat) (w : World) (v x : Value) (wr : World) : Prop :=
  ∃ (m : Nat) (pre : List Nat), m ≤ n ∧ x = .int .u64 m ∧ pre ++ putN m = putN n ∧ wr.ownsRow B 5 1 v pre.length (nums pre) ∧ Below B w wr

set_option maxRecDepth 100000 in
set_option maxHeartbeats 1000000 in
theorem rput_any (n : Nat) (w : World) (h : n < 18446744073709551616) :
    Calls Try.prog 12 #[.int .u64 n] w fun e w' => Gives w (putN n) e w' := by
  have H10 : Hid ((putN n).length ≤ 10) := plen_ten h
  obtain ⟨B, hB⟩ : ∃ B, B = w.heap.size := ⟨_, rfl⟩
  have HB : Hid (B = w.heap.size) := hB
  clear hB
  go_enter Try.func12, Try.ntmps12
  go_wp2
  go_loopw [3, 0] (fun v x wr => RPutRel n B w v x wr) (fun _ x _ => (intOf x).toNat)
  case atStart => exact ⟨n, [], Nat.le_refl _, rfl, rfl, World.ownsRow_nil _ _ _ _, Below.refl _ _⟩
  case round =>
    obtain ⟨m, pre, hmn, rfl, hpre, hown, hbel⟩ := hrel
    have HP : Hid (pre ++ putN m = putN n) := hpre
    have hlen : pre.length + (putN m).length = (putN n).length := by rw [← hpre, List.length_append]
    have h10 : pre.length ≤ 10 := by have := H10.out; omega
    have hsz : B ≤ wr.heap.size := by rw [HB.out]; exact hbel.size
    have hsz1 : B ≤ (wr.heap.size + 1) := by omega
    have hml : m < 18446744073709551616 := by omega
    have OW : Hid (wr.ownsRow B 5 1 u3 pre.length (nums pre)) := hown
    have BL : Hid (Below B w wr) := hbel
    clear hpre hlen hown hbel
    by_cases h128 : 127 < (m : Int)
    · have E1 : Hid ((m : Int) % 128 + 128 = ((m % 128 + 128 : Nat) : Int)) := by unfold Hid; omega
      go_wp2_with (at_builtin; refine wpList_app rfl (.tmp 6) (.tmp 11) rfl B u3 pre.length pre rfl (OW.out.alloc _) (some ⟨wr.heap.size, 0, none⟩) 1 1 [m % 128 + 128] rfl (lies_one wr _ _ E1.out (by omega)) rfl (fun h => (Option.some_ne_none _ h).elim) (by omega) (by simp; omega) ?_; intro v1 w1 own1 bel1)
      go_roundw
      case rel =>
        refine ⟨m / 128, pre ++ [m % 128 + 128], by omega, by go_num, ?_, ?_, (BL.out.alloc hsz _).trans bel1⟩
        · rw [List.append_assoc, List.singleton_append, ← putN_ge (by omega)]; exact HP.out
        · rw [List.length_append]; exact own1
      case measure => simp [intOf]; omega
    · have E2 : Hid ((m : Int) = ((m : Nat) : Int)) := rfl
      have HL : Hid (pre ++ [m] = putN n) := by unfold Hid; rw [← HP.out, putN_lt (n := m) (by omega)]
      go_wp2_with (at_builtin; refine wpList_app rfl (.tmp 15) (.tmp 18) rfl B u3 pre.length pre rfl (OW.out.alloc _) (some ⟨wr.heap.size, 0, none⟩) 1 1 [m] rfl (lies_one wr _ _ E2.out (by omega)) rfl (fun h => (Option.some_ne_none _ h).elim) (by omega) (by simp; omega) ?_; intro v1 w1 own1 bel1)
      go_ret
      have hb : Below B w w1 := (BL.out.alloc hsz _).trans bel1
      rw [HL.out] at own1
      rw [HB.out] at hb own1
      refine ⟨v1, rfl, ?_, hb⟩
      have hl : pre.length + 1 = (putN n).length := by rw [← HL.out, List.length_append]; rfl
      rw [hl] at own1
      exact own1

theorem rput_of (x : Int) (n : Nat) (hx : x = n) (w : World) (h : n < 18446744073709551616) : Calls Try.prog 12 #[.int .u64 x] w fun e w' => Gives w (putN n) e w' := by
  subst hx; exact rput_any n w h

set_option maxRecDepth 100000 in
set_option maxHeartbeats 1000000 in
theorem rputInt_any (n : Int) (w : World) (h1 : -9223372036854775808 ≤ n) (h2 : n ≤ 9223372036854775807) :
    Calls Try.prog 13 #[.int .i64 n] w fun e w' => Gives w (putN (zag n)) e w' := by
  have hz := zag_lt h1 (by omega : n < 9223372036854775808)
  by_cases h : n < 0
  · have HZ : Hid (zag n = (-2 * n - 1).toNat) := by unfold Hid zag; rw [if_pos h]
    go_enter Try.func13, Try.ntmps13
    go_wp2_with fail
    refine (rput_of _ (zag n) ?_ _ hz).mono ?_
    · rw [HZ.out]; omega
    rintro e w1 ⟨v, rfl, own, hb⟩
    go_wp2
    go_ret
    exact ⟨v, rfl, own, hb⟩
  · have HZ : Hid (zag n = (2 * n).toNat) := by unfold Hid zag; rw [if_neg h]
    go_enter Try.func13, Try.ntmps13
    go_wp2_with fail
    refine (rput_of _ (zag n) ?_ _ hz).mono ?_
    · rw [HZ.out]; omega
    rintro e w1 ⟨v, rfl, own, hb⟩
    go_wp2
    go_ret
    exact ⟨v, rfl, own, hb⟩

def RFixRel (n s B : Nat) (w : World) (v x : Value) (wr : World) : Prop :=
  ∃ k : Nat, k ≤ s ∧ x = .int .i64 k ∧ wr.ownsRow B 5 1 v k (nums (fixN n k)) ∧ Below B w wr

set_option maxRecDepth 100000 in
set_option maxHeartbeats 1000000 in
theorem rfixed_any (n s : Nat) (w : World) (_h : n < 18446744073709551616) (h1 : 1 ≤ s) (h8 : s ≤ 8) :
    Calls Try.prog 14 #[.int .u64 n, .int .i64 s] w fun e w' => Gives w (fixN n s) e w' := by
  obtain ⟨B, hB⟩ : ∃ B, B = w.heap.size := ⟨_, rfl⟩
  have HB : Hid (B = w.heap.size) := hB
  clear hB
  go_enter Try.func14, Try.ntmps14
  go_wp2
  go_loopw [5, 6] (fun v x wr => RFixRel n s B w v x wr) (fun _ x _ => s - (intOf x).toNat)
  case atStart => exact ⟨0, by omega, rfl, World.ownsRow_nil _ _ _ _, Below.refl _ _⟩
  case round =>
    obtain ⟨k, hk, rfl, hown, hbel⟩ := hrel
    have hsz : B ≤ wr.heap.size := by rw [HB.out]; exact hbel.size
    have OW : Hid (wr.ownsRow B 5 1 u5 k (nums (fixN n k))) := hown
    have BL : Hid (Below B w wr) := hbel
    have hsm : (s : Int) ≤ 8 := by omega
    clear hown hbel
    by_cases hlt : k < s
    · have E1 : Hid ((n : Int) / 2 ^ (8 * k) % 256 = ((n / 256 ^ k % 256 : Nat) : Int)) := fix_byte n k
      go_wp2_with (at_builtin; refine wpList_app rfl (.tmp 16) (.tmp 22) rfl B u5 k (fixN n k) rfl (OW.out.alloc _) (some ⟨wr.heap.size, 0, none⟩) 1 1 [n / 256 ^ k % 256] rfl (lies_one wr _ _ E1.out (by omega)) rfl (fun h => (Option.some_ne_none _ h).elim) (by omega) (by simp; omega) ?_; intro v1 w1 own1 bel1)
      go_roundw
      case rel =>
        refine ⟨k + 1, by omega, by go_num, ?_, (BL.out.alloc hsz _).trans bel1⟩
        rw [fixN_succ]; exact own1
      case measure => simp [intOf]; omega
    · have hks : k = s := by omega
      subst hks
      go_wp2
      go_ret
      have hb := BL.out
      have ow := OW.out
      rw [HB.out] at hb ow
      exact ⟨u5, rfl, by rw [fixN_length]; exact ow, hb⟩

set_option maxRecDepth 100000 in
set_option maxHeartbeats 1000000 in
theorem rfixed_none (n k : Int) (w : World) (h : ¬ (1 ≤ k ∧ k ≤ 8)) :
    Calls Try.prog 14 #[.int .u64 n, .int .i64 k] w fun e w' => Gives w [] e w' := by
  by_cases h1 : 0 < k
  · have h8 : 8 < k := by omega
    go_enter Try.func14, Try.ntmps14
    go_wp2
    go_rounds 1
    go_ret
    exact ⟨_, rfl, World.ownsRow_nil _ _ _ _, Below.refl _ _⟩
  · go_enter Try.func14, Try.ntmps14
    go_wp2
    go_rounds 1
    go_ret
    exact ⟨_, rfl, World.ownsRow_nil _ _ _ _, Below.refl _ _⟩

theorem grown_trans {w w1 w2 : World} {r : Option Nat} (h1 : w.grownBy w1 r) (h2 : w1.grownBy w2 r) : w.grownBy w2 r :=
  ⟨h2.os.trans h1.os, h2.tape.trans h1.tape, h2.output.trans h1.output, Nat.le_trans h1.size h2.size, fun k hk hr => (h2.block k (Nat.lt_of_lt_of_le hk h1.size) hr).trans (h1.block k hk hr)⟩

def SpRel (B g n cap : Nat) (w : World) (x : Value) (wr : World) : Prop :=
  ∃ (k : Nat) (ys : List Value), k ≤ n ∧ x = .int .i64 k ∧ wr.ownsRow B 5 1 (.slice (some ⟨g, 0, none⟩) n cap) n ys ∧ w.grownBy wr (some g)

set_option maxRecDepth 100000 in
set_option maxHeartbeats 1000000 in
theorem spoilt_row (B g n cap : Nat) (xs : List Value) (w : World) (hm : n ≤ 65536) (own : w.ownsRow B 5 1 (.slice (some ⟨g, 0, none⟩) n cap) n xs) :
    Calls Try.prog 15 #[.slice (some ⟨g, 0, none⟩) n cap] w fun e w' => e = .returned (.tuple #[]) ∧ w.grownBy w' (some g) := by
  go_enter Try.func15, Try.ntmps15
  go_wp2
  go_loopw [2] (fun x wr => SpRel B g n cap w x wr) (fun x _ => n - (intOf x).toNat)
  case atStart => exact ⟨0, xs, by omega, rfl, own, World.grownBy.refl _ _⟩
  case round =>
    obtain ⟨k, ys, hk, rfl, hown, hgr⟩ := hrel
    by_cases hlt : k < n
    · have hc : ∃ u, wr.cell? ⟨g, k, none⟩ = some u := by
        rw [hown.cellAt k (by omega)]
        have : k < ys.length := by rw [hown.1]; omega
        exact ⟨_, List.getElem?_eq_getElem this⟩
      obtain ⟨u, hc⟩ := hc
      have hf := hown.frozenAt k
      have st := hown.stored k (.int .u8 99)
      have S1 : Hid ((wr.setCell ⟨g, k, none⟩ (.int .u8 99)).ownsRow B 5 1 (.slice (some ⟨g, 0, none⟩) n cap) n (ys.set k (.int .u8 99))) := st.1
      have S2 : Hid (wr.grownBy (wr.setCell ⟨g, k, none⟩ (.int .u8 99)) (some g)) := st.2
      have G : Hid (w.grownBy wr (some g)) := hgr
      clear st hown hgr own
      go_wp2
      go_roundw
      case rel => exact ⟨k + 1, _, by omega, by go_num, S1.out, grown_trans G.out S2.out⟩
      case measure => simp [intOf]; omega
    · go_wp2
      go_end0
      exact ⟨rfl, hgr⟩

theorem spoilt_nil (w : World) : Calls Try.prog 15 #[.slice none 0 0] w fun e w' => e = .returned (.tuple #[]) ∧ w.grownBy w' none := by
  go_enter Try.func15, Try.ntmps15
  go_wp2
  go_rounds 1
  go_end0
  exact ⟨rfl, World.grownBy.refl _ _⟩

theorem spoilt_any (B n : Nat) (v : Value) (xs : List Value) (w : World) (hm : n ≤ 65536) (own : w.ownsRow B 5 1 v n xs) :
    Calls Try.prog 15 #[v] w fun e w' => e = .returned (.tuple #[]) ∧ w.grownBy w' v.ownBlock := by
  rcases own.2 with ⟨rfl, _⟩ | ⟨g, cap, _, rfl, _⟩
  · exact spoilt_nil w
  · exact spoilt_row B g n cap xs w hm own
end Go.Proofs.Ytekoeeneebolbaa
