import Derived.Test.YtmhnbklchnnbaaaGreatDoorJCkFits
set_option maxHeartbeats 1000000
set_option maxRecDepth 100000
namespace Go.Proofs.YtmhnbklchnnbaaaGreatDoor
open Go.RowKit
set_option linter.unusedVariables false
theorem ppick2_as (w : World) (i : Int) (hi : 0 ≤ i ∧ i ≤ 1000000000) (g : Nat) (x0 x1 : Int) (ho : Own w g #[.int .u8 x0, .int .u8 x1] 33) : Calls Tryz.prog 21 #[.int .i64 i, .slice (some ⟨g, 0, none⟩) 2 2] w fun en w' => en = .returned (.int .u8 (pickI i [x0, x1])) ∧ w = w' := by
  have c0 : w.cell? ⟨g, 0, none⟩ = some (.int .u8 x0) := cell_of_row _ g 0 _ _ _ ho
  have c1 : w.cell? ⟨g, 1, none⟩ = some (.int .u8 x1) := cell_of_row _ g 1 _ _ _ ho
  clear ho
  by_cases h0 : i = 0
  · subst h0
    have hmin : min (0 : Int) 1 = 0 := by decide
    have hmn : (min (0 : Int) 1).toNat = 0 := by decide
    go_enter Tryz.func21, Tryz.ntmps21
    go_wp2
    go_ret
    exact ⟨rfl, rfl⟩
  have hmin : min i 1 = 1 := by omega
  have hmn : (min i 1).toNat = 1 := by rw [hmin]; rfl
  have HP : Hid (pickI i [x0, x1] = x1) := by
    unfold Hid pickI
    show ([x0, x1].getD (min i 1).toNat 0) = _
    rw [hmn]
    rfl
  go_enter Tryz.func21, Tryz.ntmps21
  go_wp2
  go_ret
  exact ⟨by rw [HP.out]; rfl, rfl⟩
theorem ppick3_as (w : World) (i : Int) (hi : 0 ≤ i ∧ i ≤ 1000000000) (g : Nat) (x0 x1 x2 : Int) (ho : Own w g #[.int .u8 x0, .int .u8 x1, .int .u8 x2] 33) : Calls Tryz.prog 21 #[.int .i64 i, .slice (some ⟨g, 0, none⟩) 3 3] w fun en w' => en = .returned (.int .u8 (pickI i [x0, x1, x2])) ∧ w = w' := by
  have c0 : w.cell? ⟨g, 0, none⟩ = some (.int .u8 x0) := cell_of_row _ g 0 _ _ _ ho
  have c1 : w.cell? ⟨g, 1, none⟩ = some (.int .u8 x1) := cell_of_row _ g 1 _ _ _ ho
  have c2 : w.cell? ⟨g, 2, none⟩ = some (.int .u8 x2) := cell_of_row _ g 2 _ _ _ ho
  clear ho
  by_cases h0 : i = 0
  · subst h0
    have hmin : min (0 : Int) 2 = 0 := by decide
    have hmn : (min (0 : Int) 2).toNat = 0 := by decide
    go_enter Tryz.func21, Tryz.ntmps21
    go_wp2
    go_ret
    exact ⟨rfl, rfl⟩
  by_cases h1 : i = 1
  · subst h1
    have hmin : min (1 : Int) 2 = 1 := by decide
    have hmn : (min (1 : Int) 2).toNat = 1 := by decide
    go_enter Tryz.func21, Tryz.ntmps21
    go_wp2
    go_ret
    exact ⟨rfl, rfl⟩
  have hmin : min i 2 = 2 := by omega
  have hmn : (min i 2).toNat = 2 := by rw [hmin]; rfl
  have HP : Hid (pickI i [x0, x1, x2] = x2) := by
    unfold Hid pickI
    show ([x0, x1, x2].getD (min i 2).toNat 0) = _
    rw [hmn]
    rfl
  go_enter Tryz.func21, Tryz.ntmps21
  go_wp2
  go_ret
  exact ⟨by rw [HP.out]; rfl, rfl⟩
theorem ppick4_as (w : World) (i : Int) (hi : 0 ≤ i ∧ i ≤ 1000000000) (g : Nat) (x0 x1 x2 x3 : Int) (ho : Own w g #[.int .u8 x0, .int .u8 x1, .int .u8 x2, .int .u8 x3] 33) : Calls Tryz.prog 21 #[.int .i64 i, .slice (some ⟨g, 0, none⟩) 4 4] w fun en w' => en = .returned (.int .u8 (pickI i [x0, x1, x2, x3])) ∧ w = w' := by
  have c0 : w.cell? ⟨g, 0, none⟩ = some (.int .u8 x0) := cell_of_row _ g 0 _ _ _ ho
  have c1 : w.cell? ⟨g, 1, none⟩ = some (.int .u8 x1) := cell_of_row _ g 1 _ _ _ ho
  have c2 : w.cell? ⟨g, 2, none⟩ = some (.int .u8 x2) := cell_of_row _ g 2 _ _ _ ho
  have c3 : w.cell? ⟨g, 3, none⟩ = some (.int .u8 x3) := cell_of_row _ g 3 _ _ _ ho
  clear ho
  by_cases h0 : i = 0
  · subst h0
    have hmin : min (0 : Int) 3 = 0 := by decide
    have hmn : (min (0 : Int) 3).toNat = 0 := by decide
    go_enter Tryz.func21, Tryz.ntmps21
    go_wp2
    go_ret
    exact ⟨rfl, rfl⟩
  by_cases h1 : i = 1
  · subst h1
    have hmin : min (1 : Int) 3 = 1 := by decide
    have hmn : (min (1 : Int) 3).toNat = 1 := by decide
    go_enter Tryz.func21, Tryz.ntmps21
    go_wp2
    go_ret
    exact ⟨rfl, rfl⟩
  by_cases h2 : i = 2
  · subst h2
    have hmin : min (2 : Int) 3 = 2 := by decide
    have hmn : (min (2 : Int) 3).toNat = 2 := by decide
    go_enter Tryz.func21, Tryz.ntmps21
    go_wp2
    go_ret
    exact ⟨rfl, rfl⟩
  have hmin : min i 3 = 3 := by omega
  have hmn : (min i 3).toNat = 3 := by rw [hmin]; rfl
  have HP : Hid (pickI i [x0, x1, x2, x3] = x3) := by
    unfold Hid pickI
    show ([x0, x1, x2, x3].getD (min i 3).toNat 0) = _
    rw [hmn]
    rfl
  go_enter Tryz.func21, Tryz.ntmps21
  go_wp2
  go_ret
  exact ⟨by rw [HP.out]; rfl, rfl⟩
theorem pasks_1 (w : World) (r a n : Int) (b : ByteArray) (ao : Option Addr) (m cap : Nat) (hm : m ≤ 1000000000) (i : Int) (hi : 0 ≤ i ∧ i ≤ 1000000000) : Calls Tryz.prog 12 #[.agg #[.int .u8 1, .int .i64 a, .string b, .int .u64 n, .slice ao m cap, .int .u8 r], .int .i64 i] w fun en w' => en = .returned (.int .u8 (asksI r 1 m i)) ∧ Below w.heap.size w w' := by
  have hb0 : Below w.heap.size w (w.alloc (.cells #[.int .u8 1, .int .i64 a, .string b, .int .u64 n, .slice ao m cap, .int .u8 r] 35)) := (Below.refl _ _).alloc (Nat.le_refl _) _
  go_enter Tryz.func12, Tryz.ntmps12
  go_wp2
  all_goals (go_ret; exact ⟨by simp [asksI], hb0⟩)
theorem pasks_2 (w : World) (r a n : Int) (b : ByteArray) (ao : Option Addr) (m cap : Nat) (hm : m ≤ 1000000000) (i : Int) (hi : 0 ≤ i ∧ i ≤ 1000000000) : Calls Tryz.prog 12 #[.agg #[.int .u8 2, .int .i64 a, .string b, .int .u64 n, .slice ao m cap, .int .u8 r], .int .i64 i] w fun en w' => en = .returned (.int .u8 (asksI r 2 m i)) ∧ Below w.heap.size w w' := by
  have hb0 : Below w.heap.size w (w.alloc (.cells #[.int .u8 2, .int .i64 a, .string b, .int .u64 n, .slice ao m cap, .int .u8 r] 35)) := (Below.refl _ _).alloc (Nat.le_refl _) _
  go_enter Tryz.func12, Tryz.ntmps12
  go_wp2
  all_goals (go_ret; exact ⟨by simp [asksI], hb0⟩)
theorem pasks_5 (w : World) (r a n : Int) (b : ByteArray) (ao : Option Addr) (m cap : Nat) (hm : m ≤ 1000000000) (i : Int) (hi : 0 ≤ i ∧ i ≤ 1000000000) : Calls Tryz.prog 12 #[.agg #[.int .u8 5, .int .i64 a, .string b, .int .u64 n, .slice ao m cap, .int .u8 r], .int .i64 i] w fun en w' => en = .returned (.int .u8 (asksI r 5 m i)) ∧ Below w.heap.size w w' := by
  have hb0 : Below w.heap.size w (w.alloc (.cells #[.int .u8 5, .int .i64 a, .string b, .int .u64 n, .slice ao m cap, .int .u8 r] 35)) := (Below.refl _ _).alloc (Nat.le_refl _) _
  go_enter Tryz.func12, Tryz.ntmps12
  go_wp2
  all_goals (go_ret; exact ⟨by simp [asksI], hb0⟩)
theorem pasks_3 (w : World) (r a n : Int) (b : ByteArray) (ao : Option Addr) (m cap : Nat) (hm : m ≤ 1000000000) (i : Int) (hi : 0 ≤ i ∧ i ≤ 1000000000) : Calls Tryz.prog 12 #[.agg #[.int .u8 3, .int .i64 a, .string b, .int .u64 n, .slice ao m cap, .int .u8 r], .int .i64 i] w fun en w' => en = .returned (.int .u8 (asksI r 3 m i)) ∧ Below w.heap.size w w' := by
  have hb0 : Below w.heap.size w (w.alloc (.cells #[.int .u8 3, .int .i64 a, .string b, .int .u64 n, .slice ao m cap, .int .u8 r] 35)) := (Below.refl _ _).alloc (Nat.le_refl _) _
  go_enter Tryz.func12, Tryz.ntmps12
  go_wp2
  all_goals (go_ret; exact ⟨by simp [asksI], hb0⟩)
theorem pasks_6 (w : World) (r a n : Int) (b : ByteArray) (ao : Option Addr) (m cap : Nat) (hm : m ≤ 1000000000) (i : Int) (hi : 0 ≤ i ∧ i ≤ 1000000000) : Calls Tryz.prog 12 #[.agg #[.int .u8 6, .int .i64 a, .string b, .int .u64 n, .slice ao m cap, .int .u8 r], .int .i64 i] w fun en w' => en = .returned (.int .u8 (asksI r 6 m i)) ∧ Below w.heap.size w w' := by
  have hb0 : Below w.heap.size w (w.alloc (.cells #[.int .u8 6, .int .i64 a, .string b, .int .u64 n, .slice ao m cap, .int .u8 r] 35)) := (Below.refl _ _).alloc (Nat.le_refl _) _
  go_enter Tryz.func12, Tryz.ntmps12
  go_wp2
  all_goals (go_ret; exact ⟨by simp [asksI], hb0⟩)
theorem pasks_8 (w : World) (r a n : Int) (b : ByteArray) (ao : Option Addr) (m cap : Nat) (hm : m ≤ 1000000000) (i : Int) (hi : 0 ≤ i ∧ i ≤ 1000000000) : Calls Tryz.prog 12 #[.agg #[.int .u8 8, .int .i64 a, .string b, .int .u64 n, .slice ao m cap, .int .u8 r], .int .i64 i] w fun en w' => en = .returned (.int .u8 (asksI r 8 m i)) ∧ Below w.heap.size w w' := by
  have hb0 : Below w.heap.size w (w.alloc (.cells #[.int .u8 8, .int .i64 a, .string b, .int .u64 n, .slice ao m cap, .int .u8 r] 35)) := (Below.refl _ _).alloc (Nat.le_refl _) _
  go_enter Tryz.func12, Tryz.ntmps12
  go_wp2
  all_goals (go_ret; exact ⟨by simp [asksI], hb0⟩)
theorem pasks_9 (w : World) (r a n : Int) (b : ByteArray) (ao : Option Addr) (m cap : Nat) (hm : m ≤ 1000000000) (i : Int) (hi : 0 ≤ i ∧ i ≤ 1000000000) : Calls Tryz.prog 12 #[.agg #[.int .u8 9, .int .i64 a, .string b, .int .u64 n, .slice ao m cap, .int .u8 r], .int .i64 i] w fun en w' => en = .returned (.int .u8 (asksI r 9 m i)) ∧ Below w.heap.size w w' := by
  have hb0 : Below w.heap.size w (w.alloc (.cells #[.int .u8 9, .int .i64 a, .string b, .int .u64 n, .slice ao m cap, .int .u8 r] 35)) := (Below.refl _ _).alloc (Nat.le_refl _) _
  go_enter Tryz.func12, Tryz.ntmps12
  go_wp2
  all_goals (go_ret; exact ⟨by simp [asksI], hb0⟩)
theorem pasks_4 (w : World) (r a n : Int) (b : ByteArray) (ao : Option Addr) (m cap : Nat) (hm : m ≤ 1000000000) (i : Int) (hi : 0 ≤ i ∧ i ≤ 1000000000) : Calls Tryz.prog 12 #[.agg #[.int .u8 4, .int .i64 a, .string b, .int .u64 n, .slice ao m cap, .int .u8 r], .int .i64 i] w fun en w' => en = .returned (.int .u8 (asksI r 4 m i)) ∧ Below w.heap.size w w' := by
  have hb0 : Below w.heap.size w (w.alloc (.cells #[.int .u8 4, .int .i64 a, .string b, .int .u64 n, .slice ao m cap, .int .u8 r] 35)) := (Below.refl _ _).alloc (Nat.le_refl _) _
  have hs0 : w.heap.size ≤ (w.alloc (.cells #[.int .u8 4, .int .i64 a, .string b, .int .u64 n, .slice ao m cap, .int .u8 r] 35)).heap.size := by rw [World.size_alloc]; omega
  have ho : Own ((w.alloc (.cells #[.int .u8 4, .int .i64 a, .string b, .int .u64 n, .slice ao m cap, .int .u8 r] 35)).alloc (.cells #[.int .u8 3, .int .u8 4, .int .u8 6] 33)) (w.heap.size + 1) #[.int .u8 3, .int .u8 4, .int .u8 6] 33 := by have := Own.new (w.alloc (.cells #[.int .u8 4, .int .i64 a, .string b, .int .u64 n, .slice ao m cap, .int .u8 r] 35)) #[.int .u8 3, .int .u8 4, .int .u8 6] 33; rw [World.size_alloc] at this; exact this
  go_enter Tryz.func12, Tryz.ntmps12
  go_wp2_with fail
  refine (ppick3_as _ i hi (w.heap.size + 1) 3 4 6 ho).mono ?_
  rintro en _ ⟨rfl, rfl⟩
  go_wp2
  go_ret
  exact ⟨by simp [asksI], hb0.alloc hs0 _⟩
theorem pasks_10 (w : World) (r a n : Int) (b : ByteArray) (ao : Option Addr) (m cap : Nat) (hm : m ≤ 1000000000) (i : Int) (hi : 0 ≤ i ∧ i ≤ 1000000000) : Calls Tryz.prog 12 #[.agg #[.int .u8 10, .int .i64 a, .string b, .int .u64 n, .slice ao m cap, .int .u8 r], .int .i64 i] w fun en w' => en = .returned (.int .u8 (asksI r 10 m i)) ∧ Below w.heap.size w w' := by
  have hb0 : Below w.heap.size w (w.alloc (.cells #[.int .u8 10, .int .i64 a, .string b, .int .u64 n, .slice ao m cap, .int .u8 r] 35)) := (Below.refl _ _).alloc (Nat.le_refl _) _
  go_enter Tryz.func12, Tryz.ntmps12
  go_wp2
  all_goals (go_ret; exact ⟨by simp [asksI], hb0⟩)
theorem pasks_11 (w : World) (r a n : Int) (b : ByteArray) (ao : Option Addr) (m cap : Nat) (hm : m ≤ 1000000000) (i : Int) (hi : 0 ≤ i ∧ i ≤ 1000000000) : Calls Tryz.prog 12 #[.agg #[.int .u8 11, .int .i64 a, .string b, .int .u64 n, .slice ao m cap, .int .u8 r], .int .i64 i] w fun en w' => en = .returned (.int .u8 (asksI r 11 m i)) ∧ Below w.heap.size w w' := by
  have hb0 : Below w.heap.size w (w.alloc (.cells #[.int .u8 11, .int .i64 a, .string b, .int .u64 n, .slice ao m cap, .int .u8 r] 35)) := (Below.refl _ _).alloc (Nat.le_refl _) _
  go_enter Tryz.func12, Tryz.ntmps12
  go_wp2_with fail
  refine (peither_as _ _ _ _).mono ?_
  rintro en _ ⟨rfl, rfl⟩
  go_wp2
  go_ret
  exact ⟨by simp [asksI], hb0⟩
theorem pasks_12 (w : World) (r a n : Int) (b : ByteArray) (ao : Option Addr) (m cap : Nat) (hm : m ≤ 1000000000) (i : Int) (hi : 0 ≤ i ∧ i ≤ 1000000000) : Calls Tryz.prog 12 #[.agg #[.int .u8 12, .int .i64 a, .string b, .int .u64 n, .slice ao m cap, .int .u8 r], .int .i64 i] w fun en w' => en = .returned (.int .u8 (asksI r 12 m i)) ∧ Below w.heap.size w w' := by
  have hb0 : Below w.heap.size w (w.alloc (.cells #[.int .u8 12, .int .i64 a, .string b, .int .u64 n, .slice ao m cap, .int .u8 r] 35)) := (Below.refl _ _).alloc (Nat.le_refl _) _
  go_enter Tryz.func12, Tryz.ntmps12
  go_wp2_with fail
  refine (peither_as _ _ _ _).mono ?_
  rintro en _ ⟨rfl, rfl⟩
  go_wp2_with fail
  refine (peither_as _ _ _ _).mono ?_
  rintro en _ ⟨rfl, rfl⟩
  go_wp2
  go_ret
  exact ⟨by simp [asksI], hb0⟩
theorem pasks_13 (w : World) (r a n : Int) (b : ByteArray) (ao : Option Addr) (m cap : Nat) (hm : m ≤ 1000000000) (i : Int) (hi : 0 ≤ i ∧ i ≤ 1000000000) : Calls Tryz.prog 12 #[.agg #[.int .u8 13, .int .i64 a, .string b, .int .u64 n, .slice ao m cap, .int .u8 r], .int .i64 i] w fun en w' => en = .returned (.int .u8 (asksI r 13 m i)) ∧ Below w.heap.size w w' := by
  have hb0 : Below w.heap.size w (w.alloc (.cells #[.int .u8 13, .int .i64 a, .string b, .int .u64 n, .slice ao m cap, .int .u8 r] 35)) := (Below.refl _ _).alloc (Nat.le_refl _) _
  go_enter Tryz.func12, Tryz.ntmps12
  go_wp2
  all_goals (go_ret; exact ⟨by simp [asksI], hb0⟩)
theorem pasks_14 (w : World) (r a n : Int) (b : ByteArray) (ao : Option Addr) (m cap : Nat) (hm : m ≤ 1000000000) (i : Int) (hi : 0 ≤ i ∧ i ≤ 1000000000) : Calls Tryz.prog 12 #[.agg #[.int .u8 14, .int .i64 a, .string b, .int .u64 n, .slice ao m cap, .int .u8 r], .int .i64 i] w fun en w' => en = .returned (.int .u8 (asksI r 14 m i)) ∧ Below w.heap.size w w' := by
  have hb0 : Below w.heap.size w (w.alloc (.cells #[.int .u8 14, .int .i64 a, .string b, .int .u64 n, .slice ao m cap, .int .u8 r] 35)) := (Below.refl _ _).alloc (Nat.le_refl _) _
  have hs0 : w.heap.size ≤ (w.alloc (.cells #[.int .u8 14, .int .i64 a, .string b, .int .u64 n, .slice ao m cap, .int .u8 r] 35)).heap.size := by rw [World.size_alloc]; omega
  have ho : Own ((w.alloc (.cells #[.int .u8 14, .int .i64 a, .string b, .int .u64 n, .slice ao m cap, .int .u8 r] 35)).alloc (.cells #[.int .u8 21, .int .u8 6, .int .u8 8] 33)) (w.heap.size + 1) #[.int .u8 21, .int .u8 6, .int .u8 8] 33 := by have := Own.new (w.alloc (.cells #[.int .u8 14, .int .i64 a, .string b, .int .u64 n, .slice ao m cap, .int .u8 r] 35)) #[.int .u8 21, .int .u8 6, .int .u8 8] 33; rw [World.size_alloc] at this; exact this
  go_enter Tryz.func12, Tryz.ntmps12
  go_wp2_with fail
  refine (ppick3_as _ i hi (w.heap.size + 1) 21 6 8 ho).mono ?_
  rintro en _ ⟨rfl, rfl⟩
  go_wp2
  go_ret
  exact ⟨by simp [asksI], hb0.alloc hs0 _⟩
theorem pasks_15 (w : World) (r a n : Int) (b : ByteArray) (ao : Option Addr) (m cap : Nat) (hm : m ≤ 1000000000) (i : Int) (hi : 0 ≤ i ∧ i ≤ 1000000000) : Calls Tryz.prog 12 #[.agg #[.int .u8 15, .int .i64 a, .string b, .int .u64 n, .slice ao m cap, .int .u8 r], .int .i64 i] w fun en w' => en = .returned (.int .u8 (asksI r 15 m i)) ∧ Below w.heap.size w w' := by
  have hb0 : Below w.heap.size w (w.alloc (.cells #[.int .u8 15, .int .i64 a, .string b, .int .u64 n, .slice ao m cap, .int .u8 r] 35)) := (Below.refl _ _).alloc (Nat.le_refl _) _
  have hs0 : w.heap.size ≤ (w.alloc (.cells #[.int .u8 15, .int .i64 a, .string b, .int .u64 n, .slice ao m cap, .int .u8 r] 35)).heap.size := by rw [World.size_alloc]; omega
  have ho : Own ((w.alloc (.cells #[.int .u8 15, .int .i64 a, .string b, .int .u64 n, .slice ao m cap, .int .u8 r] 35)).alloc (.cells #[.int .u8 21, .int .u8 6] 33)) (w.heap.size + 1) #[.int .u8 21, .int .u8 6] 33 := by have := Own.new (w.alloc (.cells #[.int .u8 15, .int .i64 a, .string b, .int .u64 n, .slice ao m cap, .int .u8 r] 35)) #[.int .u8 21, .int .u8 6] 33; rw [World.size_alloc] at this; exact this
  go_enter Tryz.func12, Tryz.ntmps12
  go_wp2_with fail
  refine (ppick2_as _ i hi (w.heap.size + 1) 21 6 ho).mono ?_
  rintro en _ ⟨rfl, rfl⟩
  go_wp2
  go_ret
  exact ⟨by simp [asksI], hb0.alloc hs0 _⟩
theorem pasks_16 (w : World) (r a n : Int) (b : ByteArray) (ao : Option Addr) (m cap : Nat) (hm : m ≤ 1000000000) (i : Int) (hi : 0 ≤ i ∧ i ≤ 1000000000) : Calls Tryz.prog 12 #[.agg #[.int .u8 16, .int .i64 a, .string b, .int .u64 n, .slice ao m cap, .int .u8 r], .int .i64 i] w fun en w' => en = .returned (.int .u8 (asksI r 16 m i)) ∧ Below w.heap.size w w' := by
  have hb0 : Below w.heap.size w (w.alloc (.cells #[.int .u8 16, .int .i64 a, .string b, .int .u64 n, .slice ao m cap, .int .u8 r] 35)) := (Below.refl _ _).alloc (Nat.le_refl _) _
  have hs0 : w.heap.size ≤ (w.alloc (.cells #[.int .u8 16, .int .i64 a, .string b, .int .u64 n, .slice ao m cap, .int .u8 r] 35)).heap.size := by rw [World.size_alloc]; omega
  have ho : Own ((w.alloc (.cells #[.int .u8 16, .int .i64 a, .string b, .int .u64 n, .slice ao m cap, .int .u8 r] 35)).alloc (.cells #[.int .u8 9, .int .u8 10, .int .u8 11, .int .u8 6] 33)) (w.heap.size + 1) #[.int .u8 9, .int .u8 10, .int .u8 11, .int .u8 6] 33 := by have := Own.new (w.alloc (.cells #[.int .u8 16, .int .i64 a, .string b, .int .u64 n, .slice ao m cap, .int .u8 r] 35)) #[.int .u8 9, .int .u8 10, .int .u8 11, .int .u8 6] 33; rw [World.size_alloc] at this; exact this
  go_enter Tryz.func12, Tryz.ntmps12
  go_wp2_with fail
  refine (ppick4_as _ i hi (w.heap.size + 1) 9 10 11 6 ho).mono ?_
  rintro en _ ⟨rfl, rfl⟩
  go_wp2
  go_ret
  exact ⟨by simp [asksI], hb0.alloc hs0 _⟩
theorem pasks_17 (w : World) (r a n : Int) (b : ByteArray) (ao : Option Addr) (m cap : Nat) (hm : m ≤ 1000000000) (i : Int) (hi : 0 ≤ i ∧ i ≤ 1000000000) : Calls Tryz.prog 12 #[.agg #[.int .u8 17, .int .i64 a, .string b, .int .u64 n, .slice ao m cap, .int .u8 r], .int .i64 i] w fun en w' => en = .returned (.int .u8 (asksI r 17 m i)) ∧ Below w.heap.size w w' := by
  have hb0 : Below w.heap.size w (w.alloc (.cells #[.int .u8 17, .int .i64 a, .string b, .int .u64 n, .slice ao m cap, .int .u8 r] 35)) := (Below.refl _ _).alloc (Nat.le_refl _) _
  have hs0 : w.heap.size ≤ (w.alloc (.cells #[.int .u8 17, .int .i64 a, .string b, .int .u64 n, .slice ao m cap, .int .u8 r] 35)).heap.size := by rw [World.size_alloc]; omega
  have ho : Own ((w.alloc (.cells #[.int .u8 17, .int .i64 a, .string b, .int .u64 n, .slice ao m cap, .int .u8 r] 35)).alloc (.cells #[.int .u8 21, .int .u8 (eitherI (i == (m : Int) - 1) 13 12)] 33)) (w.heap.size + 1) #[.int .u8 21, .int .u8 (eitherI (i == (m : Int) - 1) 13 12)] 33 := by have := Own.new (w.alloc (.cells #[.int .u8 17, .int .i64 a, .string b, .int .u64 n, .slice ao m cap, .int .u8 r] 35)) #[.int .u8 21, .int .u8 (eitherI (i == (m : Int) - 1) 13 12)] 33; rw [World.size_alloc] at this; exact this
  go_enter Tryz.func12, Tryz.ntmps12
  go_wp2_with fail
  refine (peither_as _ _ _ _).mono ?_
  rintro en _ ⟨rfl, rfl⟩
  go_wp2_with fail
  refine (ppick2_as _ i hi (w.heap.size + 1) 21 (eitherI (i == (m : Int) - 1) 13 12) ho).mono ?_
  rintro en _ ⟨rfl, rfl⟩
  go_wp2
  go_ret
  exact ⟨by simp [asksI], hb0.alloc hs0 _⟩
theorem pasks_18 (w : World) (r a n : Int) (b : ByteArray) (ao : Option Addr) (m cap : Nat) (hm : m ≤ 1000000000) (i : Int) (hi : 0 ≤ i ∧ i ≤ 1000000000) : Calls Tryz.prog 12 #[.agg #[.int .u8 18, .int .i64 a, .string b, .int .u64 n, .slice ao m cap, .int .u8 r], .int .i64 i] w fun en w' => en = .returned (.int .u8 (asksI r 18 m i)) ∧ Below w.heap.size w w' := by
  have hb0 : Below w.heap.size w (w.alloc (.cells #[.int .u8 18, .int .i64 a, .string b, .int .u64 n, .slice ao m cap, .int .u8 r] 35)) := (Below.refl _ _).alloc (Nat.le_refl _) _
  go_enter Tryz.func12, Tryz.ntmps12
  go_wp2_with fail
  refine (peither_as _ _ _ _).mono ?_
  rintro en _ ⟨rfl, rfl⟩
  go_wp2
  go_ret
  exact ⟨by simp [asksI], hb0⟩
theorem pasks_19 (w : World) (r a n : Int) (b : ByteArray) (ao : Option Addr) (m cap : Nat) (hm : m ≤ 1000000000) (i : Int) (hi : 0 ≤ i ∧ i ≤ 1000000000) : Calls Tryz.prog 12 #[.agg #[.int .u8 19, .int .i64 a, .string b, .int .u64 n, .slice ao m cap, .int .u8 r], .int .i64 i] w fun en w' => en = .returned (.int .u8 (asksI r 19 m i)) ∧ Below w.heap.size w w' := by
  have hb0 : Below w.heap.size w (w.alloc (.cells #[.int .u8 19, .int .i64 a, .string b, .int .u64 n, .slice ao m cap, .int .u8 r] 35)) := (Below.refl _ _).alloc (Nat.le_refl _) _
  go_enter Tryz.func12, Tryz.ntmps12
  go_wp2
  all_goals (go_ret; exact ⟨by simp [asksI], hb0⟩)
theorem pasks_47 (w : World) (r a n : Int) (b : ByteArray) (ao : Option Addr) (m cap : Nat) (hm : m ≤ 1000000000) (i : Int) (hi : 0 ≤ i ∧ i ≤ 1000000000) : Calls Tryz.prog 12 #[.agg #[.int .u8 47, .int .i64 a, .string b, .int .u64 n, .slice ao m cap, .int .u8 r], .int .i64 i] w fun en w' => en = .returned (.int .u8 (asksI r 47 m i)) ∧ Below w.heap.size w w' := by
  have hb0 : Below w.heap.size w (w.alloc (.cells #[.int .u8 47, .int .i64 a, .string b, .int .u64 n, .slice ao m cap, .int .u8 r] 35)) := (Below.refl _ _).alloc (Nat.le_refl _) _
  have hs0 : w.heap.size ≤ (w.alloc (.cells #[.int .u8 47, .int .i64 a, .string b, .int .u64 n, .slice ao m cap, .int .u8 r] 35)).heap.size := by rw [World.size_alloc]; omega
  have ho : Own ((w.alloc (.cells #[.int .u8 47, .int .i64 a, .string b, .int .u64 n, .slice ao m cap, .int .u8 r] 35)).alloc (.cells #[.int .u8 5, .int .u8 21] 33)) (w.heap.size + 1) #[.int .u8 5, .int .u8 21] 33 := by have := Own.new (w.alloc (.cells #[.int .u8 47, .int .i64 a, .string b, .int .u64 n, .slice ao m cap, .int .u8 r] 35)) #[.int .u8 5, .int .u8 21] 33; rw [World.size_alloc] at this; exact this
  go_enter Tryz.func12, Tryz.ntmps12
  go_wp2_with fail
  refine (ppick2_as _ i hi (w.heap.size + 1) 5 21 ho).mono ?_
  rintro en _ ⟨rfl, rfl⟩
  go_wp2
  go_ret
  exact ⟨by simp [asksI], hb0.alloc hs0 _⟩
theorem pasks_48 (w : World) (r a n : Int) (b : ByteArray) (ao : Option Addr) (m cap : Nat) (hm : m ≤ 1000000000) (i : Int) (hi : 0 ≤ i ∧ i ≤ 1000000000) : Calls Tryz.prog 12 #[.agg #[.int .u8 48, .int .i64 a, .string b, .int .u64 n, .slice ao m cap, .int .u8 r], .int .i64 i] w fun en w' => en = .returned (.int .u8 (asksI r 48 m i)) ∧ Below w.heap.size w w' := by
  have hb0 : Below w.heap.size w (w.alloc (.cells #[.int .u8 48, .int .i64 a, .string b, .int .u64 n, .slice ao m cap, .int .u8 r] 35)) := (Below.refl _ _).alloc (Nat.le_refl _) _
  have hs0 : w.heap.size ≤ (w.alloc (.cells #[.int .u8 48, .int .i64 a, .string b, .int .u64 n, .slice ao m cap, .int .u8 r] 35)).heap.size := by rw [World.size_alloc]; omega
  cases h17 : (r == 17)
  all_goals cases h18 : (r == 18)
  all_goals
    have ho : Own ((w.alloc (.cells #[.int .u8 48, .int .i64 a, .string b, .int .u64 n, .slice ao m cap, .int .u8 r] 35)).alloc (.cells #[.int .u8 (eitherI (r == 17 || r == 18) 18 21), .int .u8 21] 33)) (w.heap.size + 1) #[.int .u8 (eitherI (r == 17 || r == 18) 18 21), .int .u8 21] 33 := by have := Own.new (w.alloc (.cells #[.int .u8 48, .int .i64 a, .string b, .int .u64 n, .slice ao m cap, .int .u8 r] 35)) #[.int .u8 (eitherI (r == 17 || r == 18) 18 21), .int .u8 21] 33; rw [World.size_alloc] at this; exact this
    rw [h17, h18] at ho
    go_enter Tryz.func12, Tryz.ntmps12
    go_wp2_with fail
    refine (peither_as _ _ _ _).mono ?_
    rintro en _ ⟨rfl, rfl⟩
    go_wp2_with fail
    refine (ppick2_as _ i hi (w.heap.size + 1) _ 21 ho).mono ?_
    rintro en _ ⟨rfl, rfl⟩
    go_wp2
    go_ret
    exact ⟨by simp [asksI, h17, h18], hb0.alloc hs0 _⟩
theorem pasks_49 (w : World) (r a n : Int) (b : ByteArray) (ao : Option Addr) (m cap : Nat) (hm : m ≤ 1000000000) (i : Int) (hi : 0 ≤ i ∧ i ≤ 1000000000) : Calls Tryz.prog 12 #[.agg #[.int .u8 49, .int .i64 a, .string b, .int .u64 n, .slice ao m cap, .int .u8 r], .int .i64 i] w fun en w' => en = .returned (.int .u8 (asksI r 49 m i)) ∧ Below w.heap.size w w' := by
  have hb0 : Below w.heap.size w (w.alloc (.cells #[.int .u8 49, .int .i64 a, .string b, .int .u64 n, .slice ao m cap, .int .u8 r] 35)) := (Below.refl _ _).alloc (Nat.le_refl _) _
  have hs0 : w.heap.size ≤ (w.alloc (.cells #[.int .u8 49, .int .i64 a, .string b, .int .u64 n, .slice ao m cap, .int .u8 r] 35)).heap.size := by rw [World.size_alloc]; omega
  cases h17 : (r == 17)
  all_goals cases h18 : (r == 18)
  all_goals
    have ho : Own ((w.alloc (.cells #[.int .u8 49, .int .i64 a, .string b, .int .u64 n, .slice ao m cap, .int .u8 r] 35)).alloc (.cells #[.int .u8 (eitherI (r == 17 || r == 18) 18 21), .int .u8 21] 33)) (w.heap.size + 1) #[.int .u8 (eitherI (r == 17 || r == 18) 18 21), .int .u8 21] 33 := by have := Own.new (w.alloc (.cells #[.int .u8 49, .int .i64 a, .string b, .int .u64 n, .slice ao m cap, .int .u8 r] 35)) #[.int .u8 (eitherI (r == 17 || r == 18) 18 21), .int .u8 21] 33; rw [World.size_alloc] at this; exact this
    rw [h17, h18] at ho
    go_enter Tryz.func12, Tryz.ntmps12
    go_wp2_with fail
    refine (peither_as _ _ _ _).mono ?_
    rintro en _ ⟨rfl, rfl⟩
    go_wp2_with fail
    refine (ppick2_as _ i hi (w.heap.size + 1) _ 21 ho).mono ?_
    rintro en _ ⟨rfl, rfl⟩
    go_wp2
    go_ret
    exact ⟨by simp [asksI, h17, h18], hb0.alloc hs0 _⟩
theorem pasks_55 (w : World) (r a n : Int) (b : ByteArray) (ao : Option Addr) (m cap : Nat) (hm : m ≤ 1000000000) (i : Int) (hi : 0 ≤ i ∧ i ≤ 1000000000) : Calls Tryz.prog 12 #[.agg #[.int .u8 55, .int .i64 a, .string b, .int .u64 n, .slice ao m cap, .int .u8 r], .int .i64 i] w fun en w' => en = .returned (.int .u8 (asksI r 55 m i)) ∧ Below w.heap.size w w' := by
  have hb0 : Below w.heap.size w (w.alloc (.cells #[.int .u8 55, .int .i64 a, .string b, .int .u64 n, .slice ao m cap, .int .u8 r] 35)) := (Below.refl _ _).alloc (Nat.le_refl _) _
  go_enter Tryz.func12, Tryz.ntmps12
  go_wp2_with fail
  refine (peither_as _ _ _ _).mono ?_
  rintro en _ ⟨rfl, rfl⟩
  go_wp2
  go_ret
  exact ⟨by simp [asksI], hb0⟩
theorem pasks_no (w : World) (r k a n : Int) (b : ByteArray) (ao : Option Addr) (m cap : Nat) (hm : m ≤ 1000000000) (i : Int) (hi : 0 ≤ i ∧ i ≤ 1000000000) (h1 : (k == 1) = false) (h2 : (k == 2) = false) (h5 : (k == 5) = false) (h3 : (k == 3) = false) (h6 : (k == 6) = false) (h8 : (k == 8) = false) (h9 : (k == 9) = false) (h4 : (k == 4) = false) (h10 : (k == 10) = false) (h11 : (k == 11) = false) (h12 : (k == 12) = false) (h13 : (k == 13) = false) (h14 : (k == 14) = false) (h15 : (k == 15) = false) (h16 : (k == 16) = false) (h17 : (k == 17) = false) (h18 : (k == 18) = false) (h19 : (k == 19) = false) (h47 : (k == 47) = false) (h48 : (k == 48) = false) (h49 : (k == 49) = false) (h55 : (k == 55) = false) : Calls Tryz.prog 12 #[.agg #[.int .u8 k, .int .i64 a, .string b, .int .u64 n, .slice ao m cap, .int .u8 r], .int .i64 i] w fun en w' => en = .returned (.int .u8 (asksI r k m i)) ∧ Below w.heap.size w w' := by
  have hb0 : Below w.heap.size w (w.alloc (.cells #[.int .u8 k, .int .i64 a, .string b, .int .u64 n, .slice ao m cap, .int .u8 r] 35)) := (Below.refl _ _).alloc (Nat.le_refl _) _
  go_enter Tryz.func12, Tryz.ntmps12
  go_wp2
  all_goals (go_ret; exact ⟨by simp [asksI, *], hb0⟩)
theorem pasks_as (w : World) (r k a n : Int) (b : ByteArray) (ao : Option Addr) (m cap : Nat) (hm : m ≤ 1000000000) (i : Int) (hi : 0 ≤ i ∧ i ≤ 1000000000) : Calls Tryz.prog 12 #[.agg #[.int .u8 k, .int .i64 a, .string b, .int .u64 n, .slice ao m cap, .int .u8 r], .int .i64 i] w fun en w' => en = .returned (.int .u8 (asksI r k m i)) ∧ Below w.heap.size w w' := by
  cases h1 : (k == 1) with
  | true =>
    have := eq_of_beq h1
    subst this
    exact pasks_1 w r a n b ao m cap hm i hi
  | false =>
  cases h2 : (k == 2) with
  | true =>
    have := eq_of_beq h2
    subst this
    exact pasks_2 w r a n b ao m cap hm i hi
  | false =>
  cases h5 : (k == 5) with
  | true =>
    have := eq_of_beq h5
    subst this
    exact pasks_5 w r a n b ao m cap hm i hi
  | false =>
  cases h3 : (k == 3) with
  | true =>
    have := eq_of_beq h3
    subst this
    exact pasks_3 w r a n b ao m cap hm i hi
  | false =>
  cases h6 : (k == 6) with
  | true =>
    have := eq_of_beq h6
    subst this
    exact pasks_6 w r a n b ao m cap hm i hi
  | false =>
  cases h8 : (k == 8) with
  | true =>
    have := eq_of_beq h8
    subst this
    exact pasks_8 w r a n b ao m cap hm i hi
  | false =>
  cases h9 : (k == 9) with
  | true =>
    have := eq_of_beq h9
    subst this
    exact pasks_9 w r a n b ao m cap hm i hi
  | false =>
  cases h4 : (k == 4) with
  | true =>
    have := eq_of_beq h4
    subst this
    exact pasks_4 w r a n b ao m cap hm i hi
  | false =>
  cases h10 : (k == 10) with
  | true =>
    have := eq_of_beq h10
    subst this
    exact pasks_10 w r a n b ao m cap hm i hi
  | false =>
  cases h11 : (k == 11) with
  | true =>
    have := eq_of_beq h11
    subst this
    exact pasks_11 w r a n b ao m cap hm i hi
  | false =>
  cases h12 : (k == 12) with
  | true =>
    have := eq_of_beq h12
    subst this
    exact pasks_12 w r a n b ao m cap hm i hi
  | false =>
  cases h13 : (k == 13) with
  | true =>
    have := eq_of_beq h13
    subst this
    exact pasks_13 w r a n b ao m cap hm i hi
  | false =>
  cases h14 : (k == 14) with
  | true =>
    have := eq_of_beq h14
    subst this
    exact pasks_14 w r a n b ao m cap hm i hi
  | false =>
  cases h15 : (k == 15) with
  | true =>
    have := eq_of_beq h15
    subst this
    exact pasks_15 w r a n b ao m cap hm i hi
  | false =>
  cases h16 : (k == 16) with
  | true =>
    have := eq_of_beq h16
    subst this
    exact pasks_16 w r a n b ao m cap hm i hi
  | false =>
  cases h17 : (k == 17) with
  | true =>
    have := eq_of_beq h17
    subst this
    exact pasks_17 w r a n b ao m cap hm i hi
  | false =>
  cases h18 : (k == 18) with
  | true =>
    have := eq_of_beq h18
    subst this
    exact pasks_18 w r a n b ao m cap hm i hi
  | false =>
  cases h19 : (k == 19) with
  | true =>
    have := eq_of_beq h19
    subst this
    exact pasks_19 w r a n b ao m cap hm i hi
  | false =>
  cases h47 : (k == 47) with
  | true =>
    have := eq_of_beq h47
    subst this
    exact pasks_47 w r a n b ao m cap hm i hi
  | false =>
  cases h48 : (k == 48) with
  | true =>
    have := eq_of_beq h48
    subst this
    exact pasks_48 w r a n b ao m cap hm i hi
  | false =>
  cases h49 : (k == 49) with
  | true =>
    have := eq_of_beq h49
    subst this
    exact pasks_49 w r a n b ao m cap hm i hi
  | false =>
  cases h55 : (k == 55) with
  | true =>
    have := eq_of_beq h55
    subst this
    exact pasks_55 w r a n b ao m cap hm i hi
  | false =>
  exact pasks_no w r k a n b ao m cap hm i hi h1 h2 h5 h3 h6 h8 h9 h4 h10 h11 h12 h13 h14 h15 h16 h17 h18 h19 h47 h48 h49 h55
end Go.Proofs.YtmhnbklchnnbaaaGreatDoor
