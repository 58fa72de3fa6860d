/-
  Wr, what is reached of it.
-/
import Derived.Test.YtkmmnocooibljaaGreatDoorLz
import Derived.Test.YtkmmnocooibljaaGreatDoorDe2q
import Derived.Deep.Onto
namespace Go.Proofs.YtkmmnocooibljaaGreatDoor
open Go.ChangeShapes Go.WideShapes Go.ChangeAt Go.RowKit Go.Deep
set_option linter.unusedVariables false

def WrRet (p B : Nat) (xs : List Nat) (w : World) (e : Ending) (w' : World) : Prop := e = .returned (.tuple #[]) ∧ WrAt w' p B xs ∧ WrFr p B w w'
set_option maxHeartbeats 1000000 in
theorem wput_as {w : World} {p B : Nat} {xs : List Nat} (h : WrAt w p B xs) (hB : B ≤ w.heap.size) (ao : Option Addr) (m c : Nat) (ys : List Nat) (hl : Lies w ao ys) (hm : m = ys.length) (hno : ao = none → c = 0) (hn : xs.length + m ≤ 100000000000) :
    Calls Tryz.prog 106 #[ptr p, .slice ao m c] w (WrRet p B (xs ++ ys) w) := by
  obtain ⟨v, h1, h2, h3⟩ := h
  obtain ⟨a0, cp, rfl, -⟩ := h2.shape
  have hne := h2.ne h1 (by decide)
  obtain ⟨c0, hf⟩ := own1 h1
  have HZ : Hid (∀ ao' n' c' w', n' = (xs ++ ys).length → Rw w' 5 1 (.slice ao' n' c') (xs ++ ys).length (nums (xs ++ ys)) → w.grownBy w' (Value.slice a0 xs.length cp).ownBlock → ((Value.slice ao' n' c').ownBlock = (Value.slice a0 xs.length cp).ownBlock ∨ (Value.slice ao' n' c').ownBlock = some w.heap.size) →
      (w'.cell? ⟨p, 0, none⟩ = some (.slice a0 xs.length cp) ∧ (∀ j, w'.frozen? ⟨p, j, none⟩ = false)) ∧ WrRet p B (xs ++ ys) w (.returned (.tuple #[])) (w'.setCell ⟨p, 0, none⟩ (.slice ao' n' c'))) := by
    intro ao' n' c' w' g0 g1 g2 g3
    have o2 := h1.grown g2 (fun e => hne (by rw [← e]))
    have hne2 := g1.ne o2 (by decide)
    refine ⟨own1 o2, rfl, ⟨_, by simpa using o2.set 0 (.slice ao' n' c'), g1.set hne2 0 _, fun b q => ?_⟩, ?_⟩
    · rcases g3 with g3 | g3
      · exact h3 b (by rw [← g3]; exact q)
      · rw [g3] at q; cases q; exact hB
    · exact ⟨((Fr.refl (fun b => b = p ∨ B ≤ b) w).grown g2 (fun k _ e => .inr (h3 k e))).set (g := p) (.inr (.inl rfl)) 0 _, fun g cs t k1 k2 k3 => (k1.grown g2 (fun e => h2.ne k1 (Ne.symm k2) e.symm)).other (i := 0) k3 _⟩
  clear h1 h3 hne
  go_enter Tryz.func106, Tryz.ntmps106
  go_wp2_with (refine wpList_appL (by rfl) (.tmp 8) (.tmp 9) (by rfl) _ xs (by rfl) h2 ao m c ys (by rfl) hl hm hno hn ?_; intro ao' n' c' w' g0 g1 g2 g3; obtain ⟨⟨d0, df⟩, HR⟩ := HZ.out ao' n' c' w' g0 g1 g2 g3; have HRR : Hid (WrRet p B (xs ++ ys) w (.returned (.tuple #[])) (w'.setCell ⟨p, 0, none⟩ (.slice ao' n' c'))) := HR; clear g0 g1 g2 g3 HR c0 hf)
  go_end0
  exact HRR.out
set_option maxHeartbeats 1000000 in
theorem wnum_as {k : Nm} {wd : Int} {f : Nat} (h8 : k.sz ≤ 8) {w : World} {p B : Nat} {xs : List Nat} (h : WrAt w p B xs) (hB : B ≤ w.heap.size) (n : Int) (hn : xs.length ≤ 10000000000) :
    Calls Tryz.prog 107 #[ptr p, numV k.sz wd f, .int .i64 n] w (WrRet p B (xs ++ k.put n) w) := by
  have hw0 := new_below w (.cells #[.int .i64 k.sz, .int .u8 wd, .func (.func f) #[] #[]] 98)
  have h2 := h.below hw0
  have o2 := Own.new w #[.int .i64 k.sz, .int .u8 wd, .func (.func f) #[] #[]] 98
  have hf0 : WrFr p B w (w.alloc (.cells #[.int .i64 k.sz, .int .u8 wd, .func (.func f) #[] #[]] 98)) := WrFr.of hw0
  have hs2 : B ≤ (w.alloc (.cells #[.int .i64 k.sz, .int .u8 wd, .func (.func f) #[] #[]] 98)).heap.size := Nat.le_trans hB hw0.size
  have hu0 : 0 ≤ n % 18446744073709551616 := Int.emod_nonneg _ (by decide)
  have hul : (n % 18446744073709551616).toNat < 18446744073709551616 := by omega
  have HU : Hid (((n % 18446744073709551616).toNat : Int) = n % 18446744073709551616) := Int.toNat_of_nonneg hu0
  by_cases hz : k.sz = 0
  · have hp : k.put n = [] := List.eq_nil_of_length_eq_zero (by rw [k.put_length, hz])
    rw [hp]
    have hz1 : (k.sz : Int) = 0 := by omega
    rw [hz1] at h2 o2 hf0 hs2 ⊢
    clear hz1 hz hp
    have HF : Hid (∀ W, Calls Tryz.prog 133 #[.int .u64 (n % 18446744073709551616), .int .i64 0] W fun e w' => e = .returned (.slice none 0 0) ∧ W = w') := fun W => fixed_none _ 0 W (by omega)
    have HW : Hid (∀ W, WrAt W p B xs → B ≤ W.heap.size → Calls Tryz.prog 106 #[ptr p, .slice none 0 0] W (WrRet p B (xs ++ []) W)) := fun W hW hs => wput_as hW hs none 0 0 [] ⟨by simp, by simp, .inl rfl⟩ rfl (fun _ => rfl) (by omega)
    clear hw0 h hB hu0 hul HU
    go_enter Tryz.func107, Tryz.ntmps107
    go_upto_region 1 with fail
    generalize w.alloc (.cells #[.int .i64 0, .int .u8 wd, .func (.func f) #[] #[]] 98) = w1 at *
    obtain ⟨d0, d1, d2, hg⟩ := own3 o2
    go_wp2_with fail
    refine (HF.out _).mono ?_
    rintro e w2 ⟨rfl, rfl⟩
    go_wp2_with fail
    refine (HW.out _ h2 hs2).mono ?_
    rintro e w3 ⟨rfl, h3, f3⟩
    have HZ : Hid (WrRet p B (xs ++ []) w (.returned (.tuple #[])) w3) := ⟨rfl, h3, hf0.trans f3⟩
    clear h3 f3 h2 hf0
    go_wp2
    go_end0
    exact HZ.out
  · have HF : Hid (∀ W, Calls Tryz.prog 133 #[.int .u64 (n % 18446744073709551616), .int .i64 (k.sz : Int)] W fun e w' => ∃ g, e = .returned (.slice (some ⟨g, 0, none⟩) k.sz k.sz) ∧ w'.ownsRow W.heap.size 5 1 (.slice (some ⟨g, 0, none⟩) k.sz k.sz) k.sz (nums (k.put n)) ∧ Below W.heap.size W w') := by
      intro W
      have := fixed_any (n % 18446744073709551616).toNat k.sz W hul (by omega) h8
      rw [HU.out] at this
      exact this
    have hlen : (k.put n).length = k.sz := k.put_length n
    have HW : Hid (∀ W g, WrAt W p B xs → B ≤ W.heap.size → W.ownsRow 0 5 1 (.slice (some ⟨g, 0, none⟩) k.sz k.sz) k.sz (nums (k.put n)) → Calls Tryz.prog 106 #[ptr p, .slice (some ⟨g, 0, none⟩) k.sz k.sz] W (WrRet p B (xs ++ k.put n) W)) := fun W g hW hs ho => wput_as hW hs (some ⟨g, 0, none⟩) k.sz k.sz (k.put n) (lies_row hlen.symm ho (k.put_byte n) (by omega)) hlen.symm (fun q => by cases q) (by omega)
    generalize k.put n = ys at *
    clear hu0 hul HU hB h hlen hw0
    go_enter Tryz.func107, Tryz.ntmps107
    go_upto_region 1 with fail
    generalize w.alloc (.cells #[.int .i64 (k.sz : Int), .int .u8 wd, .func (.func f) #[] #[]] 98) = w1 at *
    obtain ⟨d0, d1, d2, hg⟩ := own3 o2
    go_wp2_with fail
    refine (HF.out _).mono ?_
    rintro e w2 ⟨g, rfl, hro, b2⟩
    replace h2 := h2.below b2
    replace hs2 := Nat.le_trans hs2 b2.size
    replace hf0 := hf0.trans (WrFr.of b2)
    clear b2
    have hcall := HW.out w2 g h2 hs2 (World.ownsRow.mono hro (Nat.zero_le _))
    clear hro HW HF
    go_wp2_with fail
    refine hcall.mono ?_
    rintro e w3 ⟨rfl, h3, f3⟩
    have HZ : Hid (WrRet p B (xs ++ ys) w (.returned (.tuple #[])) w3) := ⟨rfl, h3, hf0.trans f3⟩
    clear h3 f3 h2 hf0 hcall
    go_wp2
    go_end0
    exact HZ.out
end Go.Proofs.YtkmmnocooibljaaGreatDoor
