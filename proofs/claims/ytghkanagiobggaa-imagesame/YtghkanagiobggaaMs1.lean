/-
  ROWS HELD AGAINST EACH OTHER: the kit's SameInts, SameFields; slices.Equal of numbers, bytes, texts, fields.
-/
import Derived.Test.YtghkanagiobggaaMb
namespace Go.Proofs.Ytghkanagiobggaa
open Go.RowKit
set_option linter.unusedVariables false

theorem ba_ne {a b : ByteArray} (h : ¬ a = b) : (a.toList == b.toList) = false := by rw [ba_eq]; simp [h]
theorem ba_self (a : ByteArray) : (a.toList == a.toList) = true := by rw [ba_eq]; simp
set_option maxHeartbeats 2000000 in
set_option maxRecDepth 100000 in
theorem sameInts_as {w : World} {a a' : Option Addr} {n n' c c' : Nat} {xs ys : List Int} (hn : n = xs.length) (hn' : n' = ys.length) (h : RowAt w a 1 xs.length (inF xs)) (h' : RowAt w a' 1 ys.length (inF ys)) (hm : n ≤ big) (b : Bool) (hb : b = true ↔ xs = ys) :
    Calls Try.prog 27 #[.slice a n c, .slice a' n' c'] w fun e w' => e = .returned (.bool b) ∧ Below w.heap.size w w' := by
  by_cases hne : n = n'
  · subst hne
    have HN : Hid (n = xs.length) := hn
    have HN' : Hid (n = ys.length) := hn'
    have H1 : Hid (RowAt w a 1 xs.length (inF xs)) := h
    have H2 : Hid (RowAt w a' 1 ys.length (inF ys)) := h'
    have HB : Hid (b = true ↔ xs = ys) := hb
    have hm : n ≤ 140737488355328 := hm
    clear hn hn' h h' hb
    go_enter Try.func27, Try.ntmps27
    go_wp2_with fail
    go_loopw [5] (fun i wr => ∃ k q : Nat, k ≤ n ∧ i = .int .i64 (k : Int) ∧ wr = w.drewN q ∧ ∀ j, j < k → xs.getD j 0 = ys.getD j 0) (fun i _ => n - (intOf i).toNat)
    case atStart => exact ⟨0, 0, Nat.zero_le _, rfl, rfl, fun j hj => by omega⟩
    case round =>
      obtain ⟨k, q, hk, rfl, rfl, hpre⟩ := hrel
      by_cases hlt : k < n
      · obtain ⟨b1, o1, rfl, g1⟩ := H1.out.at (i := k) (by rw [← HN.out]; exact hlt)
        obtain ⟨b2, o2, rfl, g2⟩ := H2.out.at (i := k) (by rw [← HN'.out]; exact hlt)
        have d0 : w.cell? ⟨b1, o1 + k, none⟩ = some (.int .i64 (xs.getD k 0)) := by have := g1 0 (by omega); rw [Nat.mul_one] at this; exact this
        have d2 : w.cell? ⟨b2, o2 + k, none⟩ = some (.int .i64 (ys.getD k 0)) := by have := g2 0 (by omega); rw [Nat.mul_one] at this; exact this
        clear g1 g2
        have hlt2 : (k : Int) < (n : Int) := by omega
        have hk0 : (0 : Int) ≤ (k : Int) := by omega
        by_cases he : xs.getD k 0 = ys.getD k 0
        · have HP : Hid (∀ j, j < k + 1 → xs.getD j 0 = ys.getD j 0) := fun j hj => by
            by_cases q : j = k
            · subst q; exact he
            · exact hpre j (by omega)
          rw [he] at d0
          clear he hpre
          generalize (ys.getD k 0) = V at *
          go_wp2_with fail
          go_quiet (fail)
          go_wp2
          go_roundw
          case rel => exact ⟨k + 1, _, hlt, by go_num, rfl, HP.out⟩
          case measure => simp [intOf]; omega
        · obtain rfl : b = false := iff_false HB.out (fun q => he (by rw [q]))
          clear hpre
          have hne2 : ((xs.getD k 0) == (ys.getD k 0)) = false := by rw [beq_eq_false_iff_ne]; exact he
          generalize (xs.getD k 0) = V at *
          generalize (ys.getD k 0) = V' at *
          clear he
          go_wp2_with fail
          go_quiet (fail)
          go_wp2
          go_ret
          exact ⟨rfl, below_drawn (below_drewN w q) _⟩
      · obtain rfl : k = n := by omega
        obtain rfl : b = true := HB.out.2 (list_eq 0 (by rw [← HN.out, ← HN'.out]) (fun j hj => hpre j (by rw [HN.out]; exact hj)))
        go_wp2
        go_ret
        exact ⟨rfl, below_drewN w q⟩
  · obtain rfl : b = false := iff_false hb (fun q => hne (by rw [hn, hn', q]))
    have hq : ((n : Int) == (n' : Int)) = false := by rw [beq_eq_false_iff_ne]; omega
    clear h h' hb hn hn' hm
    generalize (n : Int) = N at *
    generalize (n' : Int) = N' at *
    go_enter Try.func27, Try.ntmps27
    go_wp2
    go_ret
    exact ⟨rfl, Below.refl _ _⟩
set_option maxHeartbeats 2000000 in
set_option maxRecDepth 100000 in
theorem eqInts_as {w : World} {a a' : Option Addr} {n n' c c' : Nat} {xs ys : List Int} (hn : n = xs.length) (hn' : n' = ys.length) (h : RowAt w a 1 xs.length (inF xs)) (h' : RowAt w a' 1 ys.length (inF ys)) (hm : n ≤ big) (b : Bool) (hb : b = true ↔ xs = ys) :
    Calls Try.prog 24 #[.slice a n c, .slice a' n' c'] w fun e w' => e = .returned (.bool b) ∧ Below w.heap.size w w' := by
  by_cases hne : n = n'
  · subst hne
    have HN : Hid (n = xs.length) := hn
    have HN' : Hid (n = ys.length) := hn'
    have H1 : Hid (RowAt w a 1 xs.length (inF xs)) := h
    have H2 : Hid (RowAt w a' 1 ys.length (inF ys)) := h'
    have HB : Hid (b = true ↔ xs = ys) := hb
    have hm : n ≤ 140737488355328 := hm
    clear hn hn' h h' hb
    go_enter Try.func24, Try.ntmps24
    go_wp2_with fail
    go_loopw [13] (fun i wr => ∃ k q : Nat, k ≤ n ∧ i = .int .i64 (k : Int) ∧ wr = w.drewN q ∧ ∀ j, j < k → xs.getD j 0 = ys.getD j 0) (fun i _ => n - (intOf i).toNat)
    case atStart => exact ⟨0, 0, Nat.zero_le _, rfl, rfl, fun j hj => by omega⟩
    case round =>
      obtain ⟨k, q, hk, rfl, rfl, hpre⟩ := hrel
      by_cases hlt : k < n
      · obtain ⟨b1, o1, rfl, g1⟩ := H1.out.at (i := k) (by rw [← HN.out]; exact hlt)
        obtain ⟨b2, o2, rfl, g2⟩ := H2.out.at (i := k) (by rw [← HN'.out]; exact hlt)
        have d0 : w.cell? ⟨b1, o1 + k, none⟩ = some (.int .i64 (xs.getD k 0)) := by have := g1 0 (by omega); rw [Nat.mul_one] at this; exact this
        have d2 : w.cell? ⟨b2, o2 + k, none⟩ = some (.int .i64 (ys.getD k 0)) := by have := g2 0 (by omega); rw [Nat.mul_one] at this; exact this
        clear g1 g2
        have hlt2 : (k : Int) < (n : Int) := by omega
        have hk0 : (0 : Int) ≤ (k : Int) := by omega
        by_cases he : xs.getD k 0 = ys.getD k 0
        · have HP : Hid (∀ j, j < k + 1 → xs.getD j 0 = ys.getD j 0) := fun j hj => by
            by_cases q : j = k
            · subst q; exact he
            · exact hpre j (by omega)
          rw [he] at d0
          clear he hpre
          generalize (ys.getD k 0) = V at *
          go_wp2_with fail
          go_quiet (fail)
          go_wp2
          go_roundw
          case rel => exact ⟨k + 1, _, hlt, by go_num, rfl, HP.out⟩
          case measure => simp [intOf]; omega
        · obtain rfl : b = false := iff_false HB.out (fun q => he (by rw [q]))
          clear hpre
          have hne2 : ((xs.getD k 0) == (ys.getD k 0)) = false := by rw [beq_eq_false_iff_ne]; exact he
          generalize (xs.getD k 0) = V at *
          generalize (ys.getD k 0) = V' at *
          clear he
          go_wp2_with fail
          go_quiet (fail)
          go_wp2
          go_ret
          exact ⟨rfl, below_drawn (below_drewN w q) _⟩
      · obtain rfl : k = n := by omega
        obtain rfl : b = true := HB.out.2 (list_eq 0 (by rw [← HN.out, ← HN'.out]) (fun j hj => hpre j (by rw [HN.out]; exact hj)))
        go_wp2
        go_ret
        exact ⟨rfl, below_drewN w q⟩
  · obtain rfl : b = false := iff_false hb (fun q => hne (by rw [hn, hn', q]))
    have hq : ((n : Int) == (n' : Int)) = false := by rw [beq_eq_false_iff_ne]; omega
    clear h h' hb hn hn' hm
    generalize (n : Int) = N at *
    generalize (n' : Int) = N' at *
    go_enter Try.func24, Try.ntmps24
    go_wp2
    go_ret
    exact ⟨rfl, Below.refl _ _⟩
set_option maxHeartbeats 2000000 in
set_option maxRecDepth 100000 in
theorem eqBytes_as {w : World} {a a' : Option Addr} {n n' c c' : Nat} {xs ys : List Nat} (hn : n = xs.length) (hn' : n' = ys.length) (h : RowAt w a 1 xs.length (byF xs)) (h' : RowAt w a' 1 ys.length (byF ys)) (hm : n ≤ big) (b : Bool) (hb : b = true ↔ xs = ys) :
    Calls Try.prog 25 #[.slice a n c, .slice a' n' c'] w fun e w' => e = .returned (.bool b) ∧ Below w.heap.size w w' := by
  by_cases hne : n = n'
  · subst hne
    have HN : Hid (n = xs.length) := hn
    have HN' : Hid (n = ys.length) := hn'
    have H1 : Hid (RowAt w a 1 xs.length (byF xs)) := h
    have H2 : Hid (RowAt w a' 1 ys.length (byF ys)) := h'
    have HB : Hid (b = true ↔ xs = ys) := hb
    have hm : n ≤ 140737488355328 := hm
    clear hn hn' h h' hb
    go_enter Try.func25, Try.ntmps25
    go_wp2_with fail
    go_loopw [13] (fun i wr => ∃ k q : Nat, k ≤ n ∧ i = .int .i64 (k : Int) ∧ wr = w.drewN q ∧ ∀ j, j < k → xs.getD j 0 = ys.getD j 0) (fun i _ => n - (intOf i).toNat)
    case atStart => exact ⟨0, 0, Nat.zero_le _, rfl, rfl, fun j hj => by omega⟩
    case round =>
      obtain ⟨k, q, hk, rfl, rfl, hpre⟩ := hrel
      by_cases hlt : k < n
      · obtain ⟨b1, o1, rfl, g1⟩ := H1.out.at (i := k) (by rw [← HN.out]; exact hlt)
        obtain ⟨b2, o2, rfl, g2⟩ := H2.out.at (i := k) (by rw [← HN'.out]; exact hlt)
        have d0 : w.cell? ⟨b1, o1 + k, none⟩ = some (.int .u8 ((xs.getD k 0 : Nat) : Int)) := by have := g1 0 (by omega); rw [Nat.mul_one] at this; exact this
        have d2 : w.cell? ⟨b2, o2 + k, none⟩ = some (.int .u8 ((ys.getD k 0 : Nat) : Int)) := by have := g2 0 (by omega); rw [Nat.mul_one] at this; exact this
        clear g1 g2
        have hlt2 : (k : Int) < (n : Int) := by omega
        have hk0 : (0 : Int) ≤ (k : Int) := by omega
        by_cases he : xs.getD k 0 = ys.getD k 0
        · have HP : Hid (∀ j, j < k + 1 → xs.getD j 0 = ys.getD j 0) := fun j hj => by
            by_cases q : j = k
            · subst q; exact he
            · exact hpre j (by omega)
          rw [he] at d0
          clear he hpre
          generalize ((ys.getD k 0 : Nat) : Int) = V at *
          go_wp2_with fail
          go_quiet (fail)
          go_wp2
          go_roundw
          case rel => exact ⟨k + 1, _, hlt, by go_num, rfl, HP.out⟩
          case measure => simp [intOf]; omega
        · obtain rfl : b = false := iff_false HB.out (fun q => he (by rw [q]))
          clear hpre
          have hne2 : (((xs.getD k 0 : Nat) : Int) == ((ys.getD k 0 : Nat) : Int)) = false := by rw [beq_eq_false_iff_ne]; omega
          generalize ((xs.getD k 0 : Nat) : Int) = V at *
          generalize ((ys.getD k 0 : Nat) : Int) = V' at *
          clear he
          go_wp2_with fail
          go_quiet (fail)
          go_wp2
          go_ret
          exact ⟨rfl, below_drawn (below_drewN w q) _⟩
      · obtain rfl : k = n := by omega
        obtain rfl : b = true := HB.out.2 (list_eq 0 (by rw [← HN.out, ← HN'.out]) (fun j hj => hpre j (by rw [HN.out]; exact hj)))
        go_wp2
        go_ret
        exact ⟨rfl, below_drewN w q⟩
  · obtain rfl : b = false := iff_false hb (fun q => hne (by rw [hn, hn', q]))
    have hq : ((n : Int) == (n' : Int)) = false := by rw [beq_eq_false_iff_ne]; omega
    clear h h' hb hn hn' hm
    generalize (n : Int) = N at *
    generalize (n' : Int) = N' at *
    go_enter Try.func25, Try.ntmps25
    go_wp2
    go_ret
    exact ⟨rfl, Below.refl _ _⟩
set_option maxHeartbeats 2000000 in
set_option maxRecDepth 100000 in
theorem eqStrs_as {w : World} {a a' : Option Addr} {n n' c c' : Nat} {xs ys : List ByteArray} (hn : n = xs.length) (hn' : n' = ys.length) (h : RowAt w a 1 xs.length (txF xs)) (h' : RowAt w a' 1 ys.length (txF ys)) (hm : n ≤ big) (b : Bool) (hb : b = true ↔ xs = ys) :
    Calls Try.prog 12 #[.slice a n c, .slice a' n' c'] w fun e w' => e = .returned (.bool b) ∧ Below w.heap.size w w' := by
  by_cases hne : n = n'
  · subst hne
    have HN : Hid (n = xs.length) := hn
    have HN' : Hid (n = ys.length) := hn'
    have H1 : Hid (RowAt w a 1 xs.length (txF xs)) := h
    have H2 : Hid (RowAt w a' 1 ys.length (txF ys)) := h'
    have HB : Hid (b = true ↔ xs = ys) := hb
    have hm : n ≤ 140737488355328 := hm
    clear hn hn' h h' hb
    go_enter Try.func12, Try.ntmps12
    go_wp2_with fail
    go_loopw [13] (fun i wr => ∃ k q : Nat, k ≤ n ∧ i = .int .i64 (k : Int) ∧ wr = w.drewN q ∧ ∀ j, j < k → xs.getD j ⟨#[]⟩ = ys.getD j ⟨#[]⟩) (fun i _ => n - (intOf i).toNat)
    case atStart => exact ⟨0, 0, Nat.zero_le _, rfl, rfl, fun j hj => by omega⟩
    case round =>
      obtain ⟨k, q, hk, rfl, rfl, hpre⟩ := hrel
      by_cases hlt : k < n
      · obtain ⟨b1, o1, rfl, g1⟩ := H1.out.at (i := k) (by rw [← HN.out]; exact hlt)
        obtain ⟨b2, o2, rfl, g2⟩ := H2.out.at (i := k) (by rw [← HN'.out]; exact hlt)
        have d0 : w.cell? ⟨b1, o1 + k, none⟩ = some (.string (xs.getD k ⟨#[]⟩)) := by have := g1 0 (by omega); rw [Nat.mul_one] at this; exact this
        have d2 : w.cell? ⟨b2, o2 + k, none⟩ = some (.string (ys.getD k ⟨#[]⟩)) := by have := g2 0 (by omega); rw [Nat.mul_one] at this; exact this
        clear g1 g2
        have hlt2 : (k : Int) < (n : Int) := by omega
        have hk0 : (0 : Int) ≤ (k : Int) := by omega
        by_cases he : xs.getD k ⟨#[]⟩ = ys.getD k ⟨#[]⟩
        · have HP : Hid (∀ j, j < k + 1 → xs.getD j ⟨#[]⟩ = ys.getD j ⟨#[]⟩) := fun j hj => by
            by_cases q : j = k
            · subst q; exact he
            · exact hpre j (by omega)
          rw [he] at d0
          clear he hpre
          generalize ys.getD k ⟨#[]⟩ = s at *
          have hss := ba_self s
          go_wp2_with fail
          go_quiet (fail)
          go_wp2
          go_roundw
          case rel => exact ⟨k + 1, _, hlt, by go_num, rfl, HP.out⟩
          case measure => simp [intOf]; omega
        · obtain rfl : b = false := iff_false HB.out (fun q => he (by rw [q]))
          clear hpre
          generalize xs.getD k ⟨#[]⟩ = s at *
          generalize ys.getD k ⟨#[]⟩ = s' at *
          have hss := ba_ne he
          clear he
          go_wp2_with fail
          go_quiet (fail)
          go_wp2
          go_ret
          exact ⟨rfl, below_drawn (below_drewN w q) _⟩
      · obtain rfl : k = n := by omega
        obtain rfl : b = true := HB.out.2 (list_eq ⟨#[]⟩ (by rw [← HN.out, ← HN'.out]) (fun j hj => hpre j (by rw [HN.out]; exact hj)))
        go_wp2
        go_ret
        exact ⟨rfl, below_drewN w q⟩
  · obtain rfl : b = false := iff_false hb (fun q => hne (by rw [hn, hn', q]))
    have hq : ((n : Int) == (n' : Int)) = false := by rw [beq_eq_false_iff_ne]; omega
    clear h h' hb hn hn' hm
    generalize (n : Int) = N at *
    generalize (n' : Int) = N' at *
    go_enter Try.func12, Try.ntmps12
    go_wp2
    go_ret
    exact ⟨rfl, Below.refl _ _⟩
set_option maxHeartbeats 2000000 in
set_option maxRecDepth 100000 in
theorem sameFields_as {w : World} {a a' : Option Addr} {n n' c c' : Nat} {xs ys : List Fl} (hn : n = xs.length) (hn' : n' = ys.length) (h : RowAt w a 2 xs.length (flF xs)) (h' : RowAt w a' 2 ys.length (flF ys)) (hm : n ≤ big) (b : Bool) (hb : b = true ↔ xs = ys) :
    Calls Try.prog 26 #[.slice a n c, .slice a' n' c'] w fun e w' => e = .returned (.bool b) ∧ Below w.heap.size w w' := by
  by_cases hne : n = n'
  · subst hne
    have HN : Hid (n = xs.length) := hn
    have HN' : Hid (n = ys.length) := hn'
    have H1 : Hid (RowAt w a 2 xs.length (flF xs)) := h
    have H2 : Hid (RowAt w a' 2 ys.length (flF ys)) := h'
    have HB : Hid (b = true ↔ xs = ys) := hb
    have hm : n ≤ 140737488355328 := hm
    clear hn hn' h h' hb
    go_enter Try.func26, Try.ntmps26
    go_wp2_with fail
    go_loopw [5] (fun i wr => ∃ k q : Nat, k ≤ n ∧ i = .int .i64 (k : Int) ∧ wr = w.drewN q ∧ ∀ j, j < k → xs.getD j zFl = ys.getD j zFl) (fun i _ => n - (intOf i).toNat)
    case atStart => exact ⟨0, 0, Nat.zero_le _, rfl, rfl, fun j hj => by omega⟩
    case round =>
      obtain ⟨k, q, hk, rfl, rfl, hpre⟩ := hrel
      by_cases hlt : k < n
      · obtain ⟨b1, o1, rfl, g1⟩ := H1.out.at (i := k) (by rw [← HN.out]; exact hlt)
        obtain ⟨b2, o2, rfl, g2⟩ := H2.out.at (i := k) (by rw [← HN'.out]; exact hlt)
        have d0 : w.cell? ⟨b1, o1 + k * 2, none⟩ = some (.string (xs.getD k zFl).name) := g1 0 (by omega)
        have d1 : w.cell? ⟨b1, o1 + k * 2 + 1, none⟩ = some (.int .i64 (xs.getD k zFl).typ) := g1 1 (by omega)
        have d2 : w.cell? ⟨b2, o2 + k * 2, none⟩ = some (.string (ys.getD k zFl).name) := g2 0 (by omega)
        have d3 : w.cell? ⟨b2, o2 + k * 2 + 1, none⟩ = some (.int .i64 (ys.getD k zFl).typ) := g2 1 (by omega)
        clear g1 g2
        have hlt2 : (k : Int) < (n : Int) := by omega
        have hk0 : (0 : Int) ≤ (k : Int) := by omega
        by_cases he : xs.getD k zFl = ys.getD k zFl
        · have HP : Hid (∀ j, j < k + 1 → xs.getD j zFl = ys.getD j zFl) := fun j hj => by
            by_cases q : j = k
            · subst q; exact he
            · exact hpre j (by omega)
          rw [he] at d0 d1
          clear he hpre
          generalize ys.getD k zFl = Y at *
          obtain ⟨s, t⟩ := Y
          simp only at d0 d1 d2 d3
          have hss := ba_self s
          go_wp2_with fail
          go_quiet (fail)
          go_wp2
          go_roundw
          case rel => exact ⟨k + 1, _, hlt, by go_num, rfl, HP.out⟩
          case measure => simp [intOf]; omega
        · obtain rfl : b = false := iff_false HB.out (fun q => he (by rw [q]))
          clear hpre
          generalize xs.getD k zFl = X at *
          generalize ys.getD k zFl = Y at *
          obtain ⟨s, t⟩ := X
          obtain ⟨s', t'⟩ := Y
          simp only at d0 d1 d2 d3
          by_cases hs : s = s'
          · subst hs
            have ht : (t == t') = false := by
              rw [beq_eq_false_iff_ne]
              intro q; subst q; exact he rfl
            have hss := ba_self s
            clear he
            go_wp2_with fail
            go_quiet (fail)
            go_wp2
            go_ret
            exact ⟨rfl, below_drawn (below_drewN w q) _⟩
          · have hss := ba_ne hs
            clear he
            go_wp2_with fail
            go_quiet (fail)
            go_wp2
            go_ret
            exact ⟨rfl, below_drawn (below_drewN w q) _⟩
      · obtain rfl : k = n := by omega
        obtain rfl : b = true := HB.out.2 (list_eq zFl (by rw [← HN.out, ← HN'.out]) (fun j hj => hpre j (by rw [HN.out]; exact hj)))
        go_wp2
        go_ret
        exact ⟨rfl, below_drewN w q⟩
  · obtain rfl : b = false := iff_false hb (fun q => hne (by rw [hn, hn', q]))
    have hq : ((n : Int) == (n' : Int)) = false := by rw [beq_eq_false_iff_ne]; omega
    clear h h' hb hn hn' hm
    generalize (n : Int) = N at *
    generalize (n' : Int) = N' at *
    go_enter Try.func26, Try.ntmps26
    go_wp2
    go_ret
    exact ⟨rfl, Below.refl _ _⟩
set_option maxHeartbeats 2000000 in
set_option maxRecDepth 100000 in
theorem eqFields_as {w : World} {a a' : Option Addr} {n n' c c' : Nat} {xs ys : List Fl} (hn : n = xs.length) (hn' : n' = ys.length) (h : RowAt w a 2 xs.length (flF xs)) (h' : RowAt w a' 2 ys.length (flF ys)) (hm : n ≤ big) (b : Bool) (hb : b = true ↔ xs = ys) :
    Calls Try.prog 23 #[.slice a n c, .slice a' n' c'] w fun e w' => e = .returned (.bool b) ∧ Below w.heap.size w w' := by
  by_cases hne : n = n'
  · subst hne
    have HN : Hid (n = xs.length) := hn
    have HN' : Hid (n = ys.length) := hn'
    have H1 : Hid (RowAt w a 2 xs.length (flF xs)) := h
    have H2 : Hid (RowAt w a' 2 ys.length (flF ys)) := h'
    have HB : Hid (b = true ↔ xs = ys) := hb
    have hm : n ≤ 140737488355328 := hm
    clear hn hn' h h' hb
    go_enter Try.func23, Try.ntmps23
    go_wp2_with fail
    go_loopw [13] (fun i wr => ∃ k q : Nat, k ≤ n ∧ i = .int .i64 (k : Int) ∧ wr = w.drewN q ∧ ∀ j, j < k → xs.getD j zFl = ys.getD j zFl) (fun i _ => n - (intOf i).toNat)
    case atStart => exact ⟨0, 0, Nat.zero_le _, rfl, rfl, fun j hj => by omega⟩
    case round =>
      obtain ⟨k, q, hk, rfl, rfl, hpre⟩ := hrel
      by_cases hlt : k < n
      · obtain ⟨b1, o1, rfl, g1⟩ := H1.out.at (i := k) (by rw [← HN.out]; exact hlt)
        obtain ⟨b2, o2, rfl, g2⟩ := H2.out.at (i := k) (by rw [← HN'.out]; exact hlt)
        have d0 : w.cell? ⟨b1, o1 + k * 2, none⟩ = some (.string (xs.getD k zFl).name) := g1 0 (by omega)
        have d1 : w.cell? ⟨b1, o1 + k * 2 + 1, none⟩ = some (.int .i64 (xs.getD k zFl).typ) := g1 1 (by omega)
        have d2 : w.cell? ⟨b2, o2 + k * 2, none⟩ = some (.string (ys.getD k zFl).name) := g2 0 (by omega)
        have d3 : w.cell? ⟨b2, o2 + k * 2 + 1, none⟩ = some (.int .i64 (ys.getD k zFl).typ) := g2 1 (by omega)
        clear g1 g2
        have hlt2 : (k : Int) < (n : Int) := by omega
        have hk0 : (0 : Int) ≤ (k : Int) := by omega
        by_cases he : xs.getD k zFl = ys.getD k zFl
        · have HP : Hid (∀ j, j < k + 1 → xs.getD j zFl = ys.getD j zFl) := fun j hj => by
            by_cases q : j = k
            · subst q; exact he
            · exact hpre j (by omega)
          rw [he] at d0 d1
          clear he hpre
          generalize ys.getD k zFl = Y at *
          obtain ⟨s, t⟩ := Y
          simp only at d0 d1 d2 d3
          have hss := ba_self s
          go_wp2_with fail
          go_quiet (fail)
          go_wp2
          go_roundw
          case rel => exact ⟨k + 1, _, hlt, by go_num, rfl, HP.out⟩
          case measure => simp [intOf]; omega
        · obtain rfl : b = false := iff_false HB.out (fun q => he (by rw [q]))
          clear hpre
          generalize xs.getD k zFl = X at *
          generalize ys.getD k zFl = Y at *
          obtain ⟨s, t⟩ := X
          obtain ⟨s', t'⟩ := Y
          simp only at d0 d1 d2 d3
          by_cases hs : s = s'
          · subst hs
            have ht : (t == t') = false := by
              rw [beq_eq_false_iff_ne]
              intro q; subst q; exact he rfl
            have hss := ba_self s
            clear he
            go_wp2_with fail
            go_quiet (fail)
            go_wp2
            go_ret
            exact ⟨rfl, below_drawn (below_drewN w q) _⟩
          · have hss := ba_ne hs
            clear he
            go_wp2_with fail
            go_quiet (fail)
            go_wp2
            go_ret
            exact ⟨rfl, below_drawn (below_drewN w q) _⟩
      · obtain rfl : k = n := by omega
        obtain rfl : b = true := HB.out.2 (list_eq zFl (by rw [← HN.out, ← HN'.out]) (fun j hj => hpre j (by rw [HN.out]; exact hj)))
        go_wp2
        go_ret
        exact ⟨rfl, below_drewN w q⟩
  · obtain rfl : b = false := iff_false hb (fun q => hne (by rw [hn, hn', q]))
    have hq : ((n : Int) == (n' : Int)) = false := by rw [beq_eq_false_iff_ne]; omega
    clear h h' hb hn hn' hm
    generalize (n : Int) = N at *
    generalize (n' : Int) = N' at *
    go_enter Try.func23, Try.ntmps23
    go_wp2
    go_ret
    exact ⟨rfl, Below.refl _ _⟩
end Go.Proofs.Ytghkanagiobggaa
