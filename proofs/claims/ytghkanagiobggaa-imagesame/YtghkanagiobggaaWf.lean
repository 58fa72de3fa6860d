/-
  THE MODULE WITHOUT ANYTHING: Check's parts, the writer, the body.
-/
import Derived.Test.YtghkanagiobggaaWe
import Derived.Test.YtghkanagiobggaaMb
namespace Go.Proofs.Ytghkanagiobggaa
open Go.RowKit
set_option linter.unusedVariables false

abbrev zMo : Array Value := #[.slice none 0 0, .slice none 0 0, .slice none 0 0]
set_option maxHeartbeats 1000000 in
set_option maxRecDepth 100000 in
theorem parts_empty (w : World) : Calls Try.prog 28 #[.agg zMo] w fun e w' => e = .returned (.int .i64 0) ∧ Below w.heap.size w w' := by
  have o1 := Own.new w zMo 26
  have hb := new_below w (.cells zMo 26)
  go_enter Try.func28, Try.ntmps28
  go_upto_region 1 with fail
  generalize w.alloc (.cells zMo 26) = w1 at *
  obtain ⟨x0, x1, x2, xf⟩ := own3 o1
  go_wp2_with fail
  go_loopw [30] (fun i wr => i = .int .i64 0 ∧ wr = w1) (fun _ _ => 0)
  case atStart => exact ⟨rfl, rfl⟩
  case round =>
    obtain ⟨rfl, e0⟩ := hrel
    have e0 := e0.symm
    subst e0
    go_wp2_with fail
    go_loopw [44] (fun i wr => i = .int .i64 0 ∧ wr = w1) (fun _ _ => 0)
    case atStart => exact ⟨rfl, rfl⟩
    case round =>
      obtain ⟨rfl, e0⟩ := hrel
      have e0 := e0.symm
      subst e0
      go_wp2_with fail
      go_loopw [55] (fun i wr => i = .int .i64 0 ∧ wr = w1) (fun _ _ => 0)
      case atStart => exact ⟨rfl, rfl⟩
      case round =>
        obtain ⟨rfl, e0⟩ := hrel
        have e0 := e0.symm
        subst e0
        go_wp2
        go_ret
        exact ⟨rfl, hb⟩
theorem put0 : Q01.putN 0 = [0] := rfl
theorem inum0 {w : World} {p B : Nat} {s : Ws} (h : IwAt w p B s) (hB : B ≤ w.heap.size) : Calls Try.prog 35 #[ptr p, .int .i64 0] w (IwRet p B (s.put [0]) w) := by
  have := inumber_as h hB 0 (by omega) (by rw [put0]; simp) (by rw [put0]; simp)
  rw [put0] at this
  exact this
set_option maxHeartbeats 2000000 in
set_option maxRecDepth 100000 in
theorem module_empty {w : World} {p B : Nat} (h : IwAt w p B ([], false)) (hB : B ≤ w.heap.size) :
    Calls Try.prog 29 #[ptr p, .agg zMo] w (IwRet p B ([0, 0, 0], false) w) := by
  have o1 := Own.new w zMo 26
  have hb := new_below w (.cells zMo 26)
  have hp : ¬ w.heap.size = p := by obtain ⟨_, a, c, h1, -⟩ := h; have := h1.lt; omega
  have h1 := h.below hb
  have HB : Hid (B ≤ w.heap.size) := hB
  clear h hB
  go_enter Try.func29, Try.ntmps29
  go_upto_region 1 with fail
  have hs : w.heap.size ≤ (w.alloc (.cells zMo 26)).heap.size := hb.size
  have f1 : IwFr p B w (w.alloc (.cells zMo 26)) := IwFr.of hb
  generalize w.alloc (.cells zMo 26) = w1 at *
  generalize w.heap.size = g at *
  obtain ⟨x0, x1, x2, xf⟩ := own3 o1
  go_wp2_with fail
  refine Calls.mono (inum0 h1 (Nat.le_trans HB.out hs)) ?_
  rintro e w2 ⟨rfl, h2, f2⟩
  have o2 := f2.typ g _ _ o1 (by decide) hp
  have s2 : g ≤ w2.heap.size := Nat.le_trans hs f2.fr.size
  have f12 := f1.trans f2
  clear x0 x1 x2 xf o1 h1 f1 f2 hs hb
  obtain ⟨x0, x1, x2, xf⟩ := own3 o2
  go_wp2_with fail
  go_loopw [18] (fun i wr => i = .int .i64 0 ∧ wr = w2) (fun _ _ => 0)
  case atStart => exact ⟨rfl, rfl⟩
  case round =>
    obtain ⟨rfl, rfl⟩ := hrel
    go_wp2_with fail
    refine Calls.mono (inum0 h2 (Nat.le_trans HB.out s2)) ?_
    rintro e w3 ⟨rfl, h3, f3⟩
    have o3 := f3.typ g _ _ o2 (by decide) hp
    have s3 : g ≤ w3.heap.size := Nat.le_trans s2 f3.fr.size
    have f13 := f12.trans f3
    clear x0 x1 x2 xf o2 h2 f12 f3 s2
    obtain ⟨x0, x1, x2, xf⟩ := own3 o3
    go_wp2_with fail
    go_loopw [34] (fun i wr => i = .int .i64 0 ∧ wr = w3) (fun _ _ => 0)
    case atStart => exact ⟨rfl, rfl⟩
    case round =>
      obtain ⟨rfl, rfl⟩ := hrel
      go_wp2_with fail
      refine Calls.mono (inum0 h3 (Nat.le_trans HB.out s3)) ?_
      rintro e w4 ⟨rfl, h4, f4⟩
      have o4 := f4.typ g _ _ o3 (by decide) hp
      have f14 := f13.trans f4
      clear x0 x1 x2 xf o3 h3 f13 f4 s3
      obtain ⟨x0, x1, x2, xf⟩ := own3 o4
      have HR : Hid (IwAt w4 p B ([0, 0, 0], false) ∧ IwFr p B w w4) := ⟨h4, f14⟩
      clear h4 f14
      go_wp2_with fail
      go_loopw [50] (fun i wr => i = .int .i64 0 ∧ wr = w4) (fun _ _ => 0)
      case atStart => exact ⟨rfl, rfl⟩
      case round =>
        obtain ⟨rfl, rfl⟩ := hrel
        go_wp2
        go_end0
        exact ⟨rfl, HR.out⟩
set_option maxHeartbeats 2000000 in
set_option maxRecDepth 100000 in
theorem body_empty (w : World) : Calls Try.prog 19 #[.agg zMo] w fun e w' => ∃ a c, e = .returned (.tuple #[.slice a 3 c, .int .i64 0]) ∧ Rw w' 5 1 (.slice a 3 c) 3 (nums [0, 0, 0]) ∧ (∀ b, (Value.slice a 3 c).ownBlock = some b → w.heap.size ≤ b) ∧ Below w.heap.size w w' := by
  have o1 := Own.new w zMo 26
  have hb := new_below w (.cells zMo 26)
  go_enter Try.func19, Try.ntmps19
  go_upto_region 1 with fail
  generalize w.alloc (.cells zMo 26) = w1 at *
  obtain ⟨x0, x1, x2, xf⟩ := own3 o1
  go_wp2_with fail
  refine Calls.mono (parts_empty w1) ?_
  rintro e w2 ⟨rfl, b2⟩
  replace o1 := o1.below b2
  replace hb := hb.trans (b2.mono hb.size)
  clear x0 x1 x2 xf b2
  have oW := Own.new w2 #[.slice none 0 0, .bool false] 60
  have o3 := o1.alloc (.cells #[.slice none 0 0, .bool false] 60)
  have hs2 := hb.size
  have hb3 := hb.alloc hb.size (.cells #[.slice none 0 0, .bool false] 60)
  have hA : IwAt (w2.alloc (.cells #[.slice none 0 0, .bool false] 60)) w2.heap.size w.heap.size ([], false) := ⟨by simp, none, 0, oW, World.ownsRow_nil _ _ _ _, by simp [Value.ownBlock]⟩
  go_upto_region 5 with fail
  have hgp : ¬ w.heap.size = w2.heap.size := by have := o1.lt; omega
  generalize w2.alloc (.cells #[.slice none 0 0, .bool false] 60) = w3 at *
  obtain ⟨p, hp⟩ : ∃ p, w2.heap.size = p := ⟨_, rfl⟩
  rw [hp] at oW hA hgp hs2
  rw [hp]
  obtain ⟨x0, x1, x2, xf⟩ := own3 o3
  go_wp2_with fail
  refine Calls.mono (module_empty hA hb3.size) ?_
  rintro e w4 ⟨rfl, ⟨h40, a, c, o4, r4, n4⟩, f4⟩
  have o4 : Own w4 p #[.slice a 3 c, .bool false] 60 := o4
  have hb4 := below_fr hb3 f4.fr (fun g q => by rcases q with rfl | q <;> omega)
  have HR : Hid (Rw w4 5 1 (.slice a 3 c) 3 (nums [0, 0, 0]) ∧ (∀ b, (Value.slice a 3 c).ownBlock = some b → w.heap.size ≤ b) ∧ Below w.heap.size w w4) := ⟨r4, n4, hb4⟩
  clear x0 x1 x2 xf r4 n4 hb4 f4 h40
  obtain ⟨y0, y1, yf⟩ := own2 o4
  go_wp2
  go_ret2
  exact ⟨a, c, rfl, HR.out⟩
end Go.Proofs.Ytghkanagiobggaa
