/-
  CONTRACT of the tour's own call: a step of it.
-/
import Derived.Test.YtepadfcjjcionaaGreatDoorMt
namespace Go.Proofs.YtepadfcjjcionaaGreatDoor
open Go.RowKit
set_option linter.unusedVariables false

theorem TourAt.budg {w : World} {R M B : Nat} {A : Ways} {y z k k' : Nat} (h : TourAt w R M B A y z k) (hk : k ≤ k') : TourAt w R M B A y z k' := ⟨h.1, h.2.1, h.2.2.mono hk⟩
def StPost (N : Nat) (w : World) (R M B : Nat) (A : Ways) (y z k : Nat) (op ty n : Int) (tx : ByteArray) (ks : List Tm) (kv : Value) (c : Bool) : Prop :=
  Calls Tryz.prog 14 #[.pointer (some ⟨R, 0, none⟩), .agg #[.int .u8 op, .int .i64 ty, .int .i64 n, .string tx, kv], .bool c] w fun en w' => en = .returned (.bool (bodyF (walkF N) ⟨op, ty, n, tx, ks⟩ c).e) ∧
    TourAt w' R M B (orW A (bodyF (walkF N) ⟨op, ty, n, tx, ks⟩ c).w) (y + (oneO c).y + (bodyF (walkF N) ⟨op, ty, n, tx, ks⟩ c).y) (z + (oneO c).z + (bodyF (walkF N) ⟨op, ty, n, tx, ks⟩ c).z) (k + bud ⟨op, ty, n, tx, ks⟩) ∧ Kt R M w w'

set_option maxRecDepth 100000 in
set_option maxHeartbeats 4000000 in
theorem st_block {N : Nat} (HS : Hid (StmtOk N)) {w0 w : World} {R M B : Nat} {A : Ways} {y z k : Nat} {ty n : Int} {tx : ByteArray} {ks : List Tm} {kv : Value} {c : Bool} 
    (hE : ∀ u ∈ ks, Enough N u) (hn : inr n) (hk : KidsR w0 kv ks) (hb : Below w0.heap.size w0 w) (hR : w0.heap.size ≤ R) (hM : w0.heap.size ≤ M) (hB : w0.heap.size ≤ B) (h : TourAt w R M B A y z k)
    (hs : y + z + k + 100 * cnt.cntL ks + 1000 * N + 1000 ≤ 1000000000) : StPost N w R M B A y z k 1 ty n tx ks kv c := by
  obtain ⟨ao, cap, rfl, hl1, hl2, _⟩ := id hk
  obtain ⟨m, hm⟩ : ∃ m, ks.length = m := ⟨_, rfl⟩
  have HK : Hid (KidsR w0 (.slice ao m cap) ks) := by rw [← hm]; exact hk
  unfold StPost
  rw [hm] at hl1 ⊢
  have hRl := h.1.lt
  have hMl := h.2.2.lt
  have oB := Own.new w #[.int .u8 1, .int .i64 ty, .int .i64 n, .string tx, .slice ao m cap] 24
  have CT := count_as c (h.alloc (.cells #[.int .u8 1, .int .i64 ty, .int .i64 n, .string tx, .slice ao m cap] 24)) (by omega)
  obtain ⟨y1, hy1⟩ : ∃ q, (if c then 1 else 0 : Nat) = q := ⟨_, rfl⟩
  obtain ⟨z1, hz1⟩ : ∃ q, (if c then 0 else 1 : Nat) = q := ⟨_, rfl⟩
  have hyz : y1 + z1 = 1 := by rw [← hy1, ← hz1]; cases c <;> rfl
  rw [hy1, hz1] at CT
  have e1 : (oneO c).y = y1 := hy1
  have e2 : (oneO c).z = z1 := hz1
  have hK0 : Hid (Kt R M w (w.alloc (.cells #[.int .u8 1, .int .i64 ty, .int .i64 n, .string tx, .slice ao m cap] 24))) := (Kt.refl R M w).alloc _
  rw [e1, e2]
  have HB : Hid (Below w0.heap.size w0 w) := hb
  clear hk h hb hm hy1 hz1 e1 e2
  go_enter Tryz.func14, Tryz.ntmps14
  go_wp2_with fail
  refine CT.mono ?_
  rintro en w1 ⟨⟨v, rfl⟩, hT1, hK1⟩
  have HT1 : Hid (TourAt w1 R M B A (y + y1) (z + z1) k) := hT1
  have o1 : Own w1 w.heap.size #[.int .u8 1, .int .i64 ty, .int .i64 n, .string tx, .slice ao m cap] 24 := oB.kt hK1 (by omega) (by omega)
  have HKW : Hid (Kt R M w w1) := hK0.out.trans hK1
  have hb1 : Below w0.heap.size w0 w1 := kt_below HB.out HKW.out hR hM
  have o1l := o1.lt
  obtain ⟨d0, d1, d2, d3, d4, _⟩ := o1.five
  have CL := block_as HS (outLe N) (op := 1) (ty := ty) (n := n) (tx := tx) (c := c) hE HK.out hb1 hR hM hB HT1.out (by omega)
  have HEQ : Hid (bodyF (walkF N) ⟨1, ty, n, tx, ks⟩ c = blkF (walkF N) ks c ∧ 8 * cnt.cntL ks ≤ bud ⟨1, ty, n, tx, ks⟩) := by
    refine ⟨by simp [bodyF], ?_⟩
    simp [bud]
  clear CT hT1 hK1 oB hb1
  go_wp2_with fail
  refine CL.mono ?_
  rintro en w2 ⟨rfl, hT2, hK2⟩
  clear CL
  go_wp2
  go_ret
  rw [HEQ.out.1]
  exact ⟨rfl, hT2.budg (by have := HEQ.out.2; omega), HKW.out.trans hK2⟩

set_option maxRecDepth 100000 in
set_option maxHeartbeats 4000000 in
theorem st_loop {N : Nat} (HS : Hid (StmtOk N)) {w0 w : World} {R M B : Nat} {A : Ways} {y z k : Nat} {ty n : Int} {tx : ByteArray} {ks : List Tm} {kv : Value} {c : Bool} 
    (hE : cnt.cntL ks < N) (hn : inr n) (hk : KidsR w0 kv ks) (hb : Below w0.heap.size w0 w) (hR : w0.heap.size ≤ R) (hM : w0.heap.size ≤ M) (hB : w0.heap.size ≤ B) (h : TourAt w R M B A y z k)
    (hs : y + z + k + 100 * cnt.cntL ks + 1000 * N + 1000 ≤ 1000000000) : StPost N w R M B A y z k 9 ty n tx ks kv c := by
  obtain ⟨ao, cap, rfl, hl1, hl2, _⟩ := id hk
  obtain ⟨m, hm⟩ : ∃ m, ks.length = m := ⟨_, rfl⟩
  have HK : Hid (KidsR w0 (.slice ao m cap) ks) := by rw [← hm]; exact hk
  unfold StPost
  rw [hm] at hl1 ⊢
  have hRl := h.1.lt
  have hMl := h.2.2.lt
  have oB := Own.new w #[.int .u8 9, .int .i64 ty, .int .i64 n, .string tx, .slice ao m cap] 24
  have CT := count_as c (h.alloc (.cells #[.int .u8 9, .int .i64 ty, .int .i64 n, .string tx, .slice ao m cap] 24)) (by omega)
  obtain ⟨y1, hy1⟩ : ∃ q, (if c then 1 else 0 : Nat) = q := ⟨_, rfl⟩
  obtain ⟨z1, hz1⟩ : ∃ q, (if c then 0 else 1 : Nat) = q := ⟨_, rfl⟩
  have hyz : y1 + z1 = 1 := by rw [← hy1, ← hz1]; cases c <;> rfl
  rw [hy1, hz1] at CT
  have e1 : (oneO c).y = y1 := hy1
  have e2 : (oneO c).z = z1 := hz1
  have hK0 : Hid (Kt R M w (w.alloc (.cells #[.int .u8 9, .int .i64 ty, .int .i64 n, .string tx, .slice ao m cap] 24))) := (Kt.refl R M w).alloc _
  rw [e1, e2]
  have HB : Hid (Below w0.heap.size w0 w) := hb
  clear hk h hb hm hy1 hz1 e1 e2
  go_enter Tryz.func14, Tryz.ntmps14
  go_wp2_with fail
  refine CT.mono ?_
  rintro en w1 ⟨⟨v, rfl⟩, hT1, hK1⟩
  have HT1 : Hid (TourAt w1 R M B A (y + y1) (z + z1) k) := hT1
  have o1 : Own w1 w.heap.size #[.int .u8 9, .int .i64 ty, .int .i64 n, .string tx, .slice ao m cap] 24 := oB.kt hK1 (by omega) (by omega)
  have HKW : Hid (Kt R M w w1) := hK0.out.trans hK1
  have hb1 : Below w0.heap.size w0 w1 := kt_below HB.out HKW.out hR hM
  have o1l := o1.lt
  obtain ⟨d0, d1, d2, d3, d4, _⟩ := o1.five
  have CL := loop_as HS (outLe N) (op := 9) (ty := ty) (n := n) (tx := tx) (c := c) (fun i => enough_kid hE i) (cnt12 ks) hn HK.out hb1 hR hM hB HT1.out (by omega)
  have HEQ : Hid (bodyF (walkF N) ⟨9, ty, n, tx, ks⟩ c = loopF (walkF N) n ks c ∧ bud (kidT ks 1) + bud (kidT ks 2) + 4 ≤ bud ⟨9, ty, n, tx, ks⟩) := by
    refine ⟨by simp [bodyF], ?_⟩
    have := bud12 ks; simp [bud]; simp [bud] at this; omega
  clear CT hT1 hK1 oB hb1
  go_wp2_with fail
  refine CL.mono ?_
  rintro en w2 ⟨rfl, hT2, hK2⟩
  clear CL
  go_wp2
  go_ret
  rw [HEQ.out.1]
  exact ⟨rfl, hT2.budg (by have := HEQ.out.2; omega), HKW.out.trans hK2⟩

set_option maxRecDepth 100000 in
set_option maxHeartbeats 4000000 in
theorem st_choice {N : Nat} (HS : Hid (StmtOk N)) {w0 w : World} {R M B : Nat} {A : Ways} {y z k : Nat} {ty n : Int} {tx : ByteArray} {ks : List Tm} {kv : Value} {c : Bool} 
    (hE : cnt.cntL ks < N) (hn : inr n) (hk : KidsR w0 kv ks) (hb : Below w0.heap.size w0 w) (hR : w0.heap.size ≤ R) (hM : w0.heap.size ≤ M) (hB : w0.heap.size ≤ B) (h : TourAt w R M B A y z k)
    (hs : y + z + k + 100 * cnt.cntL ks + 1000 * N + 1000 ≤ 1000000000) : StPost N w R M B A y z k 10 ty n tx ks kv c := by
  obtain ⟨ao, cap, rfl, hl1, hl2, _⟩ := id hk
  obtain ⟨m, hm⟩ : ∃ m, ks.length = m := ⟨_, rfl⟩
  have HK : Hid (KidsR w0 (.slice ao m cap) ks) := by rw [← hm]; exact hk
  unfold StPost
  rw [hm] at hl1 ⊢
  have hRl := h.1.lt
  have hMl := h.2.2.lt
  have oB := Own.new w #[.int .u8 10, .int .i64 ty, .int .i64 n, .string tx, .slice ao m cap] 24
  have CT := count_as c (h.alloc (.cells #[.int .u8 10, .int .i64 ty, .int .i64 n, .string tx, .slice ao m cap] 24)) (by omega)
  obtain ⟨y1, hy1⟩ : ∃ q, (if c then 1 else 0 : Nat) = q := ⟨_, rfl⟩
  obtain ⟨z1, hz1⟩ : ∃ q, (if c then 0 else 1 : Nat) = q := ⟨_, rfl⟩
  have hyz : y1 + z1 = 1 := by rw [← hy1, ← hz1]; cases c <;> rfl
  rw [hy1, hz1] at CT
  have e1 : (oneO c).y = y1 := hy1
  have e2 : (oneO c).z = z1 := hz1
  have hK0 : Hid (Kt R M w (w.alloc (.cells #[.int .u8 10, .int .i64 ty, .int .i64 n, .string tx, .slice ao m cap] 24))) := (Kt.refl R M w).alloc _
  rw [e1, e2]
  have HB : Hid (Below w0.heap.size w0 w) := hb
  clear hk h hb hm hy1 hz1 e1 e2
  go_enter Tryz.func14, Tryz.ntmps14
  go_wp2_with fail
  refine CT.mono ?_
  rintro en w1 ⟨⟨v, rfl⟩, hT1, hK1⟩
  have HT1 : Hid (TourAt w1 R M B A (y + y1) (z + z1) k) := hT1
  have o1 : Own w1 w.heap.size #[.int .u8 10, .int .i64 ty, .int .i64 n, .string tx, .slice ao m cap] 24 := oB.kt hK1 (by omega) (by omega)
  have HKW : Hid (Kt R M w w1) := hK0.out.trans hK1
  have hb1 : Below w0.heap.size w0 w1 := kt_below HB.out HKW.out hR hM
  have o1l := o1.lt
  obtain ⟨d0, d1, d2, d3, d4, _⟩ := o1.five
  have CL := choice_as HS (outLe N) (op := 10) (ty := ty) (n := n) (tx := tx) (c := c) (enough_arms hE) hn HK.out hb1 hR hM hB HT1.out (wt_arms ks) (bud_arms ks) (len_cnt ks) (by omega)
  have HEQ : Hid (bodyF (walkF N) ⟨10, ty, n, tx, ks⟩ c = armF (walkF N) n c (armsL ks) ∧ budL (armsL ks) ≤ bud ⟨10, ty, n, tx, ks⟩) := by
    refine ⟨by simp [bodyF], ?_⟩
    have := bud_arms ks; simp [bud]; exact this
  clear CT hT1 hK1 oB hb1
  go_wp2_with fail
  refine CL.mono ?_
  rintro en w2 ⟨rfl, hT2, hK2⟩
  clear CL
  go_wp2
  go_ret
  rw [HEQ.out.1]
  exact ⟨rfl, hT2.budg (by have := HEQ.out.2; omega), HKW.out.trans hK2⟩

set_option maxRecDepth 100000 in
set_option maxHeartbeats 4000000 in
theorem st_ret {N : Nat} (HS : Hid (StmtOk N)) {w0 w : World} {R M B : Nat} {A : Ways} {y z k : Nat} {ty n : Int} {tx : ByteArray} {ks : List Tm} {kv : Value} {c : Bool} 
    (hE : True) (hn : inr n) (hk : KidsR w0 kv ks) (hb : Below w0.heap.size w0 w) (hR : w0.heap.size ≤ R) (hM : w0.heap.size ≤ M) (hB : w0.heap.size ≤ B) (h : TourAt w R M B A y z k)
    (hs : y + z + k + 1000 ≤ 1000000000) : StPost N w R M B A y z k 14 ty n tx ks kv c := by
  obtain ⟨ao, cap, rfl, hl1, hl2, _⟩ := id hk
  obtain ⟨m, hm⟩ : ∃ m, ks.length = m := ⟨_, rfl⟩
  have HK : Hid (KidsR w0 (.slice ao m cap) ks) := by rw [← hm]; exact hk
  unfold StPost
  rw [hm] at hl1 ⊢
  have hRl := h.1.lt
  have hMl := h.2.2.lt
  have oB := Own.new w #[.int .u8 14, .int .i64 ty, .int .i64 n, .string tx, .slice ao m cap] 24
  have CT := count_as c (h.alloc (.cells #[.int .u8 14, .int .i64 ty, .int .i64 n, .string tx, .slice ao m cap] 24)) (by omega)
  obtain ⟨y1, hy1⟩ : ∃ q, (if c then 1 else 0 : Nat) = q := ⟨_, rfl⟩
  obtain ⟨z1, hz1⟩ : ∃ q, (if c then 0 else 1 : Nat) = q := ⟨_, rfl⟩
  have hyz : y1 + z1 = 1 := by rw [← hy1, ← hz1]; cases c <;> rfl
  rw [hy1, hz1] at CT
  have e1 : (oneO c).y = y1 := hy1
  have e2 : (oneO c).z = z1 := hz1
  have hK0 : Hid (Kt R M w (w.alloc (.cells #[.int .u8 14, .int .i64 ty, .int .i64 n, .string tx, .slice ao m cap] 24))) := (Kt.refl R M w).alloc _
  rw [e1, e2]
  have HB : Hid (Below w0.heap.size w0 w) := hb
  clear hk h hb hm hy1 hz1 e1 e2
  go_enter Tryz.func14, Tryz.ntmps14
  go_wp2_with fail
  refine CT.mono ?_
  rintro en w1 ⟨⟨v, rfl⟩, hT1, hK1⟩
  have HT1 : Hid (TourAt w1 R M B A (y + y1) (z + z1) k) := hT1
  have o1 : Own w1 w.heap.size #[.int .u8 14, .int .i64 ty, .int .i64 n, .string tx, .slice ao m cap] 24 := oB.kt hK1 (by omega) (by omega)
  have HKW : Hid (Kt R M w w1) := hK0.out.trans hK1
  have hb1 : Below w0.heap.size w0 w1 := kt_below HB.out HKW.out hR hM
  have o1l := o1.lt
  obtain ⟨d0, d1, d2, d3, d4, _⟩ := o1.five
  have HEQ : Hid (bodyF (walkF N) ⟨14, ty, n, tx, ks⟩ c = ⟨false, noW, 0, 0⟩) := by
    unfold Hid
    simp [bodyF]
  clear CT hT1 hK1 oB hb1
  go_wp2_with fail
  go_ret
  rw [HEQ.out]
  refine ⟨rfl, ?_, HKW.out⟩
  rw [orW_no]
  exact HT1.out.budg (by omega)

set_option maxRecDepth 100000 in
set_option maxHeartbeats 4000000 in
theorem st_trap {N : Nat} (HS : Hid (StmtOk N)) {w0 w : World} {R M B : Nat} {A : Ways} {y z k : Nat} {ty n : Int} {tx : ByteArray} {ks : List Tm} {kv : Value} {c : Bool} 
    (hE : True) (hn : inr n) (hk : KidsR w0 kv ks) (hb : Below w0.heap.size w0 w) (hR : w0.heap.size ≤ R) (hM : w0.heap.size ≤ M) (hB : w0.heap.size ≤ B) (h : TourAt w R M B A y z k)
    (hs : y + z + k + 1000 ≤ 1000000000) : StPost N w R M B A y z k 15 ty n tx ks kv c := by
  obtain ⟨ao, cap, rfl, hl1, hl2, _⟩ := id hk
  obtain ⟨m, hm⟩ : ∃ m, ks.length = m := ⟨_, rfl⟩
  have HK : Hid (KidsR w0 (.slice ao m cap) ks) := by rw [← hm]; exact hk
  unfold StPost
  rw [hm] at hl1 ⊢
  have hRl := h.1.lt
  have hMl := h.2.2.lt
  have oB := Own.new w #[.int .u8 15, .int .i64 ty, .int .i64 n, .string tx, .slice ao m cap] 24
  have CT := count_as c (h.alloc (.cells #[.int .u8 15, .int .i64 ty, .int .i64 n, .string tx, .slice ao m cap] 24)) (by omega)
  obtain ⟨y1, hy1⟩ : ∃ q, (if c then 1 else 0 : Nat) = q := ⟨_, rfl⟩
  obtain ⟨z1, hz1⟩ : ∃ q, (if c then 0 else 1 : Nat) = q := ⟨_, rfl⟩
  have hyz : y1 + z1 = 1 := by rw [← hy1, ← hz1]; cases c <;> rfl
  rw [hy1, hz1] at CT
  have e1 : (oneO c).y = y1 := hy1
  have e2 : (oneO c).z = z1 := hz1
  have hK0 : Hid (Kt R M w (w.alloc (.cells #[.int .u8 15, .int .i64 ty, .int .i64 n, .string tx, .slice ao m cap] 24))) := (Kt.refl R M w).alloc _
  rw [e1, e2]
  have HB : Hid (Below w0.heap.size w0 w) := hb
  clear hk h hb hm hy1 hz1 e1 e2
  go_enter Tryz.func14, Tryz.ntmps14
  go_wp2_with fail
  refine CT.mono ?_
  rintro en w1 ⟨⟨v, rfl⟩, hT1, hK1⟩
  have HT1 : Hid (TourAt w1 R M B A (y + y1) (z + z1) k) := hT1
  have o1 : Own w1 w.heap.size #[.int .u8 15, .int .i64 ty, .int .i64 n, .string tx, .slice ao m cap] 24 := oB.kt hK1 (by omega) (by omega)
  have HKW : Hid (Kt R M w w1) := hK0.out.trans hK1
  have hb1 : Below w0.heap.size w0 w1 := kt_below HB.out HKW.out hR hM
  have o1l := o1.lt
  obtain ⟨d0, d1, d2, d3, d4, _⟩ := o1.five
  have HEQ : Hid (bodyF (walkF N) ⟨15, ty, n, tx, ks⟩ c = ⟨false, noW, 0, 0⟩) := by
    unfold Hid
    simp [bodyF]
  clear CT hT1 hK1 oB hb1
  go_wp2_with fail
  go_ret
  rw [HEQ.out]
  refine ⟨rfl, ?_, HKW.out⟩
  rw [orW_no]
  exact HT1.out.budg (by omega)

set_option maxRecDepth 100000 in
set_option maxHeartbeats 4000000 in
theorem st_else {N : Nat} (HS : Hid (StmtOk N)) {w0 w : World} {R M B : Nat} {A : Ways} {y z k : Nat} {op ty n : Int} {tx : ByteArray} {ks : List Tm} {kv : Value} {c : Bool} (h1 : ¬ op = 1) (h8 : ¬ op = 8) (h9 : ¬ op = 9) (h10 : ¬ op = 10) (h12 : ¬ op = 12) (h13 : ¬ op = 13) (h14 : ¬ op = 14) (h15 : ¬ op = 15)
    (hE : True) (hn : inr n) (hk : KidsR w0 kv ks) (hb : Below w0.heap.size w0 w) (hR : w0.heap.size ≤ R) (hM : w0.heap.size ≤ M) (hB : w0.heap.size ≤ B) (h : TourAt w R M B A y z k)
    (hs : y + z + k + 1000 ≤ 1000000000) : StPost N w R M B A y z k op ty n tx ks kv c := by
  obtain ⟨ao, cap, rfl, hl1, hl2, _⟩ := id hk
  obtain ⟨m, hm⟩ : ∃ m, ks.length = m := ⟨_, rfl⟩
  have HK : Hid (KidsR w0 (.slice ao m cap) ks) := by rw [← hm]; exact hk
  unfold StPost
  rw [hm] at hl1 ⊢
  have hRl := h.1.lt
  have hMl := h.2.2.lt
  have oB := Own.new w #[.int .u8 op, .int .i64 ty, .int .i64 n, .string tx, .slice ao m cap] 24
  have CT := count_as c (h.alloc (.cells #[.int .u8 op, .int .i64 ty, .int .i64 n, .string tx, .slice ao m cap] 24)) (by omega)
  obtain ⟨y1, hy1⟩ : ∃ q, (if c then 1 else 0 : Nat) = q := ⟨_, rfl⟩
  obtain ⟨z1, hz1⟩ : ∃ q, (if c then 0 else 1 : Nat) = q := ⟨_, rfl⟩
  have hyz : y1 + z1 = 1 := by rw [← hy1, ← hz1]; cases c <;> rfl
  rw [hy1, hz1] at CT
  have e1 : (oneO c).y = y1 := hy1
  have e2 : (oneO c).z = z1 := hz1
  have hK0 : Hid (Kt R M w (w.alloc (.cells #[.int .u8 op, .int .i64 ty, .int .i64 n, .string tx, .slice ao m cap] 24))) := (Kt.refl R M w).alloc _
  rw [e1, e2]
  have HB : Hid (Below w0.heap.size w0 w) := hb
  clear hk h hb hm hy1 hz1 e1 e2
  go_enter Tryz.func14, Tryz.ntmps14
  go_wp2_with fail
  refine CT.mono ?_
  rintro en w1 ⟨⟨v, rfl⟩, hT1, hK1⟩
  have HT1 : Hid (TourAt w1 R M B A (y + y1) (z + z1) k) := hT1
  have o1 : Own w1 w.heap.size #[.int .u8 op, .int .i64 ty, .int .i64 n, .string tx, .slice ao m cap] 24 := oB.kt hK1 (by omega) (by omega)
  have HKW : Hid (Kt R M w w1) := hK0.out.trans hK1
  have hb1 : Below w0.heap.size w0 w1 := kt_below HB.out HKW.out hR hM
  have o1l := o1.lt
  obtain ⟨d0, d1, d2, d3, d4, _⟩ := o1.five
  have HEQ : Hid (bodyF (walkF N) ⟨op, ty, n, tx, ks⟩ c = ⟨c, noW, 0, 0⟩) := by
    unfold Hid
    simp [bodyF, h1, h8, h9, h10, h12, h13, h14, h15]
  clear CT hT1 hK1 oB hb1
  go_wp2_with fail
  go_ret
  rw [HEQ.out]
  refine ⟨rfl, ?_, HKW.out⟩
  rw [orW_no]
  exact HT1.out.budg (by omega)

end Go.Proofs.YtepadfcjjcionaaGreatDoor
