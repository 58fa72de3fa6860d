/-
  De, what is reached of it.
-/
import Derived.Test.YtkmmnocooibljaaGreatDoorLz
import Derived.Test.YtkmmnocooibljaaGreatDoorRaq
namespace Go.Proofs.YtkmmnocooibljaaGreatDoor
open Go.ChangeShapes Go.WideShapes Go.ChangeAt Go.RowKit Go.Deep
set_option linter.unusedVariables false

/-- What Decode answers. -/
def DecRet (w : World) (R : In × Nat × Nat) (e : Ending) (w' : World) : Prop :=
  ∃ v, e = .returned (.tuple #[insV R.1 v, .int .i64 (R.2.1 : Int), .int .i64 (R.2.2 : Int)]) ∧ Rw w' 51 2 v R.1.arms.length (armC R.1.arms) ∧ (∀ b, v.ownBlock = some b → w.heap.size ≤ b) ∧ Below w.heap.size w w'
theorem dec_out (xs : List Nat) (p : Int) (h : p < 0 ∨ (xs.length : Int) ≤ p) : dec xs p = (zI, 0, 2) := by unfold dec; rw [if_pos h]
set_option maxHeartbeats 1000000 in
theorem dec_bad_place {w : World} {a : Option Addr} {L cap : Nat} {xs : List Nat} (hL : L = xs.length) (p : Int) (h : p < 0 ∨ (xs.length : Int) ≤ p) :
    Calls Tryz.prog 36 #[.slice a L cap, .int .i64 p] w (DecRet w (dec xs p)) := by
  rw [dec_out xs p h, ← hL] at *
  have HZ : Hid (DecRet w (zI, 0, 2) (.returned (.tuple #[.agg zX, .int .i64 0, .int .i64 2])) (w.alloc (.cells zX 43))) := ⟨_, rfl, World.ownsRow_nil _ _ _ _, by simp [Value.ownBlock], new_below _ _⟩
  by_cases h1 : p < 0
  · clear h hL
    go_enter Tryz.func36, Tryz.ntmps36
    go_wp2
    refine bodyPost_cell3 (g := w.heap.size) (t := 43) rfl rfl rfl (heap_alloc_new w _) Tryz.underlying43 rfl (by kernel_rfl) ?_
    exact HZ.out
  · have h2 : (L : Int) ≤ p := by omega
    clear h hL
    go_enter Tryz.func36, Tryz.ntmps36
    go_wp2
    refine bodyPost_cell3 (g := w.heap.size) (t := 43) rfl rfl rfl (heap_alloc_new w _) Tryz.underlying43 rfl (by kernel_rfl) ?_
    exact HZ.out
theorem dec_none (xs : List Nat) (p : Nat) (h : p < xs.length) (hl : lay (xs.getD p 0) = none) : dec xs p = (zI, 0, 120) := by unfold dec; rw [if_neg (by omega), Int.toNat_natCast, hl]
theorem dec_some (xs : List Nat) (p : Nat) (h : p < xs.length) (l : Lay) (hl : lay (xs.getD p 0) = some l) :
    dec xs p = if (l.rd (xs.getD p 0) xs (p + 1, 0)).2.2 ≠ 0 then (zI, 0, (l.rd (xs.getD p 0) xs (p + 1, 0)).2.2) else ((l.rd (xs.getD p 0) xs (p + 1, 0)).1, (l.rd (xs.getD p 0) xs (p + 1, 0)).2.1, 0) := by
  unfold dec; rw [if_neg (by omega), Int.toNat_natCast, hl]
set_option maxHeartbeats 2000000 in
set_option maxRecDepth 100000 in
theorem dec_no_op {w : World} {b off L cap : Nat} {xs : List Nat} (hL : L = xs.length) (p : Nat) (hp : p < L) (c : Nat) (hcc : xs.getD p 0 = c) (hc : w.cell? ⟨b, off + p, none⟩ = some (.int .u8 (c : Int))) (hmax : L ≤ 9223372036854775807)
    (hn : lay c = none) (hcall : ∀ w, Calls Tryz.prog 60 #[.int .u8 (c : Int)] w fun e w' => e = .returned (.tuple #[layZ, .bool false]) ∧ Below w.heap.size w w') :
    Calls Tryz.prog 36 #[.slice (some ⟨b, off, none⟩) L cap, .int .i64 (p : Int)] w (DecRet w (dec xs p)) := by
  rw [dec_none xs p (by omega) (by rw [hcc]; exact hn)]
  have hbl := World.block_lt_of_cell? w _ hc
  have hb : b < w.heap.size := hbl
  have hc2 : (w.alloc (.cells zX 43)).cell? ⟨b, off + p, none⟩ = some (.int .u8 (c : Int)) := (Below.cell (new_below w _) hbl).trans hc
  have o4 := Own.new w zX 43
  have hbel : Below w.heap.size w ((w.alloc (.cells zX 43)).alloc (.cells #[.int .u8 (c : Int), .int .i64 0, .int .i64 0, .slice none 0 0] 43)) := (new_below _ _).alloc (by simp) _
  replace o4 := o4.alloc (.cells #[.int .u8 (c : Int), .int .i64 0, .int .i64 0, .slice none 0 0] 43)
  have oX := Own.new (w.alloc (.cells zX 43)) #[.int .u8 (c : Int), .int .i64 0, .int .i64 0, .slice none 0 0] 43
  rw [World.size_alloc] at oX
  clear hcc hn hc hbl hL
  generalize (c : Int) = C at *
  go_enter Tryz.func36, Tryz.ntmps36
  go_upto_region 4 with fail
  generalize (w.alloc (.cells zX 43)).alloc (.cells #[.int .u8 C, .int .i64 0, .int .i64 0, .slice none 0 0] 43) = w1 at *
  obtain ⟨x0, x1, x2, x3, xf⟩ := own4 oX
  go_wp2_with fail
  refine (hcall _).mono ?_
  rintro e w2 ⟨rfl, b2⟩
  replace o4 := o4.below b2
  replace hbel := hbel.trans (b2.mono hbel.size)
  clear b2 oX x0 x1 x2 x3 xf
  replace o4 := o4.alloc (.cells #[.int .i64 0, .int .u8 0, .nilFunc, .int .i64 0, .int .u8 0, .nilFunc, .bool false] 100)
  replace hbel := hbel.alloc hbel.size (.cells #[.int .i64 0, .int .u8 0, .nilFunc, .int .i64 0, .int .u8 0, .nilFunc, .bool false] 100)
  go_upto_region 5 with fail
  generalize w2.alloc (.cells #[.int .i64 0, .int .u8 0, .nilFunc, .int .i64 0, .int .u8 0, .nilFunc, .bool false] 100) = w3 at *
  go_wp2_with (refine wpList_put rfl 43 (.tmp 4) (.tmp 33) rfl rfl w.heap.size 0 rfl rfl o4 infoX rfl (by simp) rfl ?_; intro wz pz gz)
  refine bodyPost_cell3 (g := w.heap.size) (t := 43) rfl rfl rfl pz Tryz.underlying43 rfl (by kernel_rfl) ?_
  exact ⟨_, rfl, World.ownsRow_nil _ _ _ _, by simp [Value.ownBlock], hbel.grown gz hbel.size (fun k e => by cases e; exact Nat.le_refl _)⟩
end Go.Proofs.YtkmmnocooibljaaGreatDoor
