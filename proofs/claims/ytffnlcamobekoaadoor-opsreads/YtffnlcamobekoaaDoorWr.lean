/-
  CONTRACTS of the writer: put, number.
-/
import Derived.Test.YtffnlcamobekoaaDoorDe2
import Derived.Deep.Onto
namespace Go.Proofs.YtffnlcamobekoaaDoor
open Go.RowKit
set_option linter.unusedVariables false

theorem nums_append (xs ys : List Nat) : nums (xs ++ ys) = nums xs ++ nums ys := by simp [nums]
theorem nums_get (xs : List Nat) (i : Nat) (h : i < xs.length) : (nums xs)[i]? = some (.int .u8 ((xs.getD i 0 : Nat) : Int)) := by simp [nums, List.getD, h]
theorem nums_one (xs : List Nat) : ∀ u ∈ nums xs, u.oneCell' = true := by
  intro u hu
  simp only [nums, List.mem_map] at hu
  obtain ⟨c, _, rfl⟩ := hu
  rfl
/-- append of bytes that lie anywhere (or of none). -/
theorem run_appL (W : World) (ty : TypeId) (v : Value) (xs : List Nat) (hown : Rw W 5 1 v xs.length (nums xs)) (ao : Option Addr) (m c : Nat) (ys : List Nat) (hl : Lies W ao ys) (hm : m = ys.length) (hno : ao = none → c = 0) (hn : xs.length + m ≤ 100000000000) :
    ∃ ao' n' c' w', (Builtin.append_ #[27, 27] ty #[v, .slice ao m c]).run Tryd.prog W = .ok (.slice ao' n' c') w' ∧ n' = (xs ++ ys).length ∧ Rw w' 5 1 (.slice ao' n' c') (xs ++ ys).length (nums (xs ++ ys)) ∧ W.grownBy w' v.ownBlock ∧ ((Value.slice ao' n' c').ownBlock = v.ownBlock ∨ (Value.slice ao' n' c').ownBlock = some W.heap.size) := by
  cases ao with
  | none =>
    have hm0 : m = 0 := by
      rcases hl.2.2 with h0 | ⟨b, off, h0, _⟩
      · rw [hm, h0]; rfl
      · exact (Option.some_ne_none _ h0.symm).elim
    have hc0 := hno rfl
    subst hm0; subst hc0
    have hy : ys = [] := List.eq_nil_of_length_eq_zero hm.symm
    subst hy
    obtain ⟨ao, cp, rfl, h1, h2⟩ := hown.shape
    have hr : (Builtin.append_ #[27, 27] ty #[.slice ao xs.length cp, .slice none 0 0]).run Tryd.prog W = .ok (.slice ao xs.length cp) W := by
      obtain ⟨i8, hi, hz0, hz1, hz2⟩ := info_parts info8
      exact run_append_owned_none (P := Tryd.prog) (w := W) 0 27 ty 5 i8 1 Tryd.underlying27 hi _ _ _ hown
    refine ⟨ao, xs.length, cp, W, hr, by simp, ?_, World.grownBy.refl _ _, .inl rfl⟩
    simpa using hown
  | some ad =>
    have hcell : ∀ j u, (nums ys)[j]? = some u → W.cell? (ad.add j) = some u := by
      intro j u hu
      rcases hl.2.2 with h0 | ⟨b, off, h0, hc⟩
      · rw [h0] at hu; simp [nums] at hu
      · cases h0
        have hj : j < ys.length := by
          by_cases hj : j < ys.length
          · exact hj
          · rw [List.getElem?_eq_none (by rw [nums_length]; omega)] at hu; cases hu
        rw [nums_get ys j hj] at hu
        rw [← hu, ← hc j hj]
        congr 1
        unfold Addr.add; split <;> simp_all
    obtain ⟨v', w', hr, g1, g2, g3⟩ := run_appA okB W ty v xs.length (nums xs) hown ad m c (nums ys) (by rw [nums_length]; omega) hcell (nums_one ys) hn
    rw [← nums_append] at g1
    obtain ⟨ao', c', rfl, -⟩ := g1.shape
    have e : (xs ++ ys).length = xs.length + m := by rw [List.length_append, hm]
    exact ⟨ao', _, c', w', hr, e.symm, by rw [e]; exact g1, g2, g3⟩
theorem wpList_appL {W : World} {ops : Array Oper} {rest : List Oper} {o : Oper} {a : Act} {Q : Exit → Act → World → Prop} (hgd : o.guard = none) (s x : Operand)
    (ho : o.op = .call { callee := .builtin .append, args := #[s, x], argTypes := #[27, 27] }) (v : Value) (xs : List Nat) (hs : a.eval s = v) (hown : Rw W 5 1 v xs.length (nums xs)) (ao : Option Addr) (m c : Nat) (ys : List Nat) (hx : a.eval x = .slice ao m c) (hl : Lies W ao ys) (hm : m = ys.length) (hno : ao = none → c = 0) (hn : xs.length + m ≤ 100000000000)
    (h : ∀ ao' n' c' w', n' = (xs ++ ys).length → Rw w' 5 1 (.slice ao' n' c') (xs ++ ys).length (nums (xs ++ ys)) → W.grownBy w' v.ownBlock → ((Value.slice ao' n' c').ownBlock = v.ownBlock ∨ (Value.slice ao' n' c').ownBlock = some W.heap.size) → wpList Tryd.prog ops Q rest (a.put o.dst (.slice ao' n' c')) w') :
    wpList Tryd.prog ops Q (o :: rest) a W := by
  obtain ⟨ao', n', c', w', hrun, g0, g1, g2, g4⟩ := run_appL W o.type v xs hown ao m c ys hl hm hno hn
  refine wpList_plain hgd fun K hK => ?_
  unfold Oper.wp execOp
  simp only [ho, resolve, invoke, builtin, Sem.run_bind, Sem.run_pure, Result.andThen_ok, List.map_toArray, List.map_cons, List.map_nil, hs, hx, hrun]
  exact hK _ _ (h ao' n' c' w' g0 g1 g2 g4)
/-- A writer that has written xs, its row in blocks from B on. -/
def WrAt (w : World) (p B : Nat) (xs : List Nat) : Prop := ∃ v, Own w p #[v] 77 ∧ Rw w 5 1 v xs.length (nums xs) ∧ ∀ b, v.ownBlock = some b → B ≤ b
/-- What a writer's call keeps: all blocks but its own, and all that hold no bytes. -/
structure WrFr (p B : Nat) (w w' : World) : Prop where
  fr : Fr (fun b => b = p ∨ B ≤ b) w w'
  typ : ∀ g cs t, Own w g cs t → t ≠ 5 → g ≠ p → Own w' g cs t
theorem WrFr.trans {p B : Nat} {a b c : World} (h : WrFr p B a b) (k : WrFr p B b c) : WrFr p B a c := ⟨h.fr.trans k.fr, fun g cs t h1 h2 h3 => k.typ g cs t (h.typ g cs t h1 h2 h3) h2 h3⟩
theorem WrFr.of {p B : Nat} {w w' : World} (h : Below w.heap.size w w') : WrFr p B w w' := ⟨Fr.of h, fun g cs t h1 _ _ => h1.below h⟩
def WrRet (p B : Nat) (xs : List Nat) (w : World) (e : Ending) (w' : World) : Prop := e = .returned (.tuple #[]) ∧ WrAt w' p B xs ∧ WrFr p B w w'
theorem WrAt.below {w w' : World} {p B : Nat} {xs : List Nat} (h : WrAt w p B xs) (hb : Below w.heap.size w w') : WrAt w' p B xs := by
  obtain ⟨v, h1, h2, h3⟩ := h
  exact ⟨v, h1.below hb, h2.on fun k e => hb.block k (h2.lt e), h3⟩
set_option maxHeartbeats 1000000 in
theorem wput_as {w : World} {p B : Nat} {xs : List Nat} (h : WrAt w p B xs) (hB : B ≤ w.heap.size) (ao : Option Addr) (m c : Nat) (ys : List Nat) (hl : Lies w ao ys) (hm : m = ys.length) (hno : ao = none → c = 0) (hn : xs.length + m ≤ 100000000000) :
    Calls Tryd.prog 39 #[ptr p, .slice ao m c] w (WrRet p B (xs ++ ys) w) := by
  obtain ⟨v, h1, h2, h3⟩ := h
  obtain ⟨a0, cp, rfl, -⟩ := h2.shape
  have hne := h2.ne h1 (by decide)
  obtain ⟨c0, hf⟩ := own1 h1
  have HZ : Hid (∀ ao' n' c' w', n' = (xs ++ ys).length → Rw w' 5 1 (.slice ao' n' c') (xs ++ ys).length (nums (xs ++ ys)) → w.grownBy w' (Value.slice a0 xs.length cp).ownBlock → ((Value.slice ao' n' c').ownBlock = (Value.slice a0 xs.length cp).ownBlock ∨ (Value.slice ao' n' c').ownBlock = some w.heap.size) →
      (w'.cell? ⟨p, 0, none⟩ = some (.slice a0 xs.length cp) ∧ (∀ j, w'.frozen? ⟨p, j, none⟩ = false)) ∧ WrRet p B (xs ++ ys) w (.returned (.tuple #[])) (w'.setCell ⟨p, 0, none⟩ (.slice ao' n' c'))) := by
    intro ao' n' c' w' g0 g1 g2 g3
    have o2 := h1.grown g2 (fun e => hne (by rw [← e]))
    have hne2 := g1.ne o2 (by decide)
    refine ⟨own1 o2, rfl, ⟨_, by simpa using o2.set 0 (.slice ao' n' c'), g1.set hne2 0 _, fun b q => ?_⟩, ?_⟩
    · rcases g3 with g3 | g3
      · exact h3 b (by rw [← g3]; exact q)
      · rw [g3] at q; cases q; exact hB
    · exact ⟨((Fr.refl (fun b => b = p ∨ B ≤ b) w).grown g2 (fun k _ e => .inr (h3 k e))).set (g := p) (.inr (.inl rfl)) 0 _, fun g cs t k1 k2 k3 => (k1.grown g2 (fun e => h2.ne k1 (Ne.symm k2) e.symm)).other (i := 0) k3 _⟩
  clear h1 h3 hne
  go_enter Tryd.func39, Tryd.ntmps39
  go_wp2_with (refine wpList_appL (by rfl) (.tmp 8) (.tmp 9) (by rfl) _ xs (by rfl) h2 ao m c ys (by rfl) hl hm hno hn ?_; intro ao' n' c' w' g0 g1 g2 g3; obtain ⟨⟨d0, df⟩, HR⟩ := HZ.out ao' n' c' w' g0 g1 g2 g3; have HRR : Hid (WrRet p B (xs ++ ys) w (.returned (.tuple #[])) (w'.setCell ⟨p, 0, none⟩ (.slice ao' n' c'))) := HR; clear g0 g1 g2 g3 HR c0 hf)
  go_end0
  exact HRR.out
theorem lies_row {w : World} {B g n cap : Nat} {xs : List Nat} (hn : n = xs.length) (h : w.ownsRow B 5 1 (.slice (some ⟨g, 0, none⟩) n cap) n (nums xs)) (hb : ∀ c ∈ xs, c < 256) (hm : xs.length ≤ 9223372036854775807) : Lies w (some ⟨g, 0, none⟩) xs := by
  subst hn
  refine ⟨hb, hm, .inr ⟨g, 0, rfl, fun i hi => ?_⟩⟩
  rw [Nat.zero_add, h.cellAt i (by omega), nums_get xs i hi]
set_option maxHeartbeats 1000000 in
theorem wnum_as {k : Nm} {wd : Int} {f : Nat} (h8 : k.sz ≤ 8) {w : World} {p B : Nat} {xs : List Nat} (h : WrAt w p B xs) (hB : B ≤ w.heap.size) (n : Int) (hn : xs.length ≤ 10000000000) :
    Calls Tryd.prog 40 #[ptr p, numV k.sz wd f, .int .i64 n] w (WrRet p B (xs ++ k.put n) w) := by
  have hw0 := new_below w (.cells #[.int .i64 k.sz, .int .u8 wd, .func (.func f) #[] #[]] 70)
  have h2 := h.below hw0
  have o2 := Own.new w #[.int .i64 k.sz, .int .u8 wd, .func (.func f) #[] #[]] 70
  have hf0 : WrFr p B w (w.alloc (.cells #[.int .i64 k.sz, .int .u8 wd, .func (.func f) #[] #[]] 70)) := WrFr.of hw0
  have hs2 : B ≤ (w.alloc (.cells #[.int .i64 k.sz, .int .u8 wd, .func (.func f) #[] #[]] 70)).heap.size := Nat.le_trans hB hw0.size
  have hu0 : 0 ≤ n % 18446744073709551616 := Int.emod_nonneg _ (by decide)
  have hul : (n % 18446744073709551616).toNat < 18446744073709551616 := by omega
  have HU : Hid (((n % 18446744073709551616).toNat : Int) = n % 18446744073709551616) := Int.toNat_of_nonneg hu0
  by_cases hz : k.sz = 0
  · have hp : k.put n = [] := List.eq_nil_of_length_eq_zero (by rw [k.put_length, hz])
    rw [hp]
    have hz1 : (k.sz : Int) = 0 := by omega
    rw [hz1] at h2 o2 hf0 hs2 ⊢
    clear hz1 hz hp
    have HF : Hid (∀ W, Calls Tryd.prog 67 #[.int .u64 (n % 18446744073709551616), .int .i64 0] W fun e w' => e = .returned (.slice none 0 0) ∧ W = w') := fun W => fixed_none _ 0 W (by omega)
    have HW : Hid (∀ W, WrAt W p B xs → B ≤ W.heap.size → Calls Tryd.prog 39 #[ptr p, .slice none 0 0] W (WrRet p B (xs ++ []) W)) := fun W hW hs => wput_as hW hs none 0 0 [] ⟨by simp, by simp, .inl rfl⟩ rfl (fun _ => rfl) (by omega)
    clear hw0 h hB hu0 hul HU
    go_enter Tryd.func40, Tryd.ntmps40
    go_upto_region 1 with fail
    generalize w.alloc (.cells #[.int .i64 0, .int .u8 wd, .func (.func f) #[] #[]] 70) = w1 at *
    obtain ⟨d0, d1, d2, hg⟩ := own3 o2
    go_wp2_with fail
    refine (HF.out _).mono ?_
    rintro e w2 ⟨rfl, rfl⟩
    go_wp2_with fail
    refine (HW.out _ h2 hs2).mono ?_
    rintro e w3 ⟨rfl, h3, f3⟩
    have HZ : Hid (WrRet p B (xs ++ []) w (.returned (.tuple #[])) w3) := ⟨rfl, h3, hf0.trans f3⟩
    clear h3 f3 h2 hf0
    go_wp2
    go_end0
    exact HZ.out
  · have HF : Hid (∀ W, Calls Tryd.prog 67 #[.int .u64 (n % 18446744073709551616), .int .i64 (k.sz : Int)] W fun e w' => ∃ g, e = .returned (.slice (some ⟨g, 0, none⟩) k.sz k.sz) ∧ w'.ownsRow W.heap.size 5 1 (.slice (some ⟨g, 0, none⟩) k.sz k.sz) k.sz (nums (k.put n)) ∧ Below W.heap.size W w') := by
      intro W
      have := fixed_any (n % 18446744073709551616).toNat k.sz W hul (by omega) h8
      rw [HU.out] at this
      exact this
    have hlen : (k.put n).length = k.sz := k.put_length n
    have HW : Hid (∀ W g, WrAt W p B xs → B ≤ W.heap.size → W.ownsRow 0 5 1 (.slice (some ⟨g, 0, none⟩) k.sz k.sz) k.sz (nums (k.put n)) → Calls Tryd.prog 39 #[ptr p, .slice (some ⟨g, 0, none⟩) k.sz k.sz] W (WrRet p B (xs ++ k.put n) W)) := fun W g hW hs ho => wput_as hW hs (some ⟨g, 0, none⟩) k.sz k.sz (k.put n) (lies_row hlen.symm ho (k.put_byte n) (by omega)) hlen.symm (fun q => by cases q) (by omega)
    generalize k.put n = ys at *
    clear hu0 hul HU hB h hlen hw0
    go_enter Tryd.func40, Tryd.ntmps40
    go_upto_region 1 with fail
    generalize w.alloc (.cells #[.int .i64 (k.sz : Int), .int .u8 wd, .func (.func f) #[] #[]] 70) = w1 at *
    obtain ⟨d0, d1, d2, hg⟩ := own3 o2
    go_wp2_with fail
    refine (HF.out _).mono ?_
    rintro e w2 ⟨g, rfl, hro, b2⟩
    replace h2 := h2.below b2
    replace hs2 := Nat.le_trans hs2 b2.size
    replace hf0 := hf0.trans (WrFr.of b2)
    clear b2
    have hcall := HW.out w2 g h2 hs2 (World.ownsRow.mono hro (Nat.zero_le _))
    clear hro HW HF
    go_wp2_with fail
    refine hcall.mono ?_
    rintro e w3 ⟨rfl, h3, f3⟩
    have HZ : Hid (WrRet p B (xs ++ ys) w (.returned (.tuple #[])) w3) := ⟨rfl, h3, hf0.trans f3⟩
    clear h3 f3 h2 hf0 hcall
    go_wp2
    go_end0
    exact HZ.out
end Go.Proofs.YtffnlcamobekoaaDoor
