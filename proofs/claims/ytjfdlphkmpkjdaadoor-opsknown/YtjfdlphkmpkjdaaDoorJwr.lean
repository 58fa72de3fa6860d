/-
  CONTRACTS of the writer: put, number.
  CONTRACTS of layout.size, hasArms, has and of the landed Size.
  CONTRACTS of the writer's arms, of the landed Size and Encode.
-/
import Derived.Test.YtjfdlphkmpkjdaaDoorJal
import Derived.Deep.Onto
namespace Go.Proofs.YtjfdlphkmpkjdaaDoor
open Go.RowKit
set_option linter.unusedVariables false

/-- A writer that has written xs, its row in blocks from B on. -/
def WrAt (w : World) (p B : Nat) (xs : List Nat) : Prop := ∃ v, Own w p #[v] 82 ∧ Rw w 5 1 v xs.length (nums xs) ∧ ∀ b, v.ownBlock = some b → B ≤ b
/-- What a writer's call keeps: all blocks but its own, and all that hold no bytes. -/
structure WrFr (p B : Nat) (w w' : World) : Prop where
  fr : Fr (fun b => b = p ∨ B ≤ b) w w'
  typ : ∀ g cs t, Own w g cs t → t ≠ 5 → g ≠ p → Own w' g cs t
theorem WrFr.trans {p B : Nat} {a b c : World} (h : WrFr p B a b) (k : WrFr p B b c) : WrFr p B a c := ⟨h.fr.trans k.fr, fun g cs t h1 h2 h3 => k.typ g cs t (h.typ g cs t h1 h2 h3) h2 h3⟩
theorem WrFr.of {p B : Nat} {w w' : World} (h : Below w.heap.size w w') : WrFr p B w w' := ⟨Fr.of h, fun g cs t h1 _ _ => h1.below h⟩
def WrRet (p B : Nat) (xs : List Nat) (w : World) (e : Ending) (w' : World) : Prop := e = .returned (.tuple #[]) ∧ WrAt w' p B xs ∧ WrFr p B w w'
theorem WrAt.below {w w' : World} {p B : Nat} {xs : List Nat} (h : WrAt w p B xs) (hb : Below w.heap.size w w') : WrAt w' p B xs := by
  obtain ⟨v, h1, h2, h3⟩ := h
  exact ⟨v, h1.below hb, h2.on fun k e => hb.block k (h2.lt e), h3⟩
set_option maxHeartbeats 1000000 in
theorem wput_as {w : World} {p B : Nat} {xs : List Nat} (h : WrAt w p B xs) (hB : B ≤ w.heap.size) (ao : Option Addr) (m c : Nat) (ys : List Nat) (hl : Lies w ao ys) (hm : m = ys.length) (hno : ao = none → c = 0) (hn : xs.length + m ≤ 100000000000) :
    Calls Tryd.prog 34 #[ptr p, .slice ao m c] w (WrRet p B (xs ++ ys) w) := by
  obtain ⟨v, h1, h2, h3⟩ := h
  obtain ⟨a0, cp, rfl, -⟩ := h2.shape
  have hne := h2.ne h1 (by decide)
  obtain ⟨c0, hf⟩ := own1 h1
  have HZ : Hid (∀ ao' n' c' w', n' = (xs ++ ys).length → Rw w' 5 1 (.slice ao' n' c') (xs ++ ys).length (nums (xs ++ ys)) → w.grownBy w' (Value.slice a0 xs.length cp).ownBlock → ((Value.slice ao' n' c').ownBlock = (Value.slice a0 xs.length cp).ownBlock ∨ (Value.slice ao' n' c').ownBlock = some w.heap.size) →
      (w'.cell? ⟨p, 0, none⟩ = some (.slice a0 xs.length cp) ∧ (∀ j, w'.frozen? ⟨p, j, none⟩ = false)) ∧ WrRet p B (xs ++ ys) w (.returned (.tuple #[])) (w'.setCell ⟨p, 0, none⟩ (.slice ao' n' c'))) := by
    intro ao' n' c' w' g0 g1 g2 g3
    have o2 := h1.grown g2 (fun e => hne (by rw [← e]))
    have hne2 := g1.ne o2 (by decide)
    refine ⟨own1 o2, rfl, ⟨_, by simpa using o2.set 0 (.slice ao' n' c'), g1.set hne2 0 _, fun b q => ?_⟩, ?_⟩
    · rcases g3 with g3 | g3
      · exact h3 b (by rw [← g3]; exact q)
      · rw [g3] at q; cases q; exact hB
    · exact ⟨((Fr.refl (fun b => b = p ∨ B ≤ b) w).grown g2 (fun k _ e => .inr (h3 k e))).set (g := p) (.inr (.inl rfl)) 0 _, fun g cs t k1 k2 k3 => (k1.grown g2 (fun e => h2.ne k1 (Ne.symm k2) e.symm)).other (i := 0) k3 _⟩
  clear h1 h3 hne
  go_enter Tryd.func34, Tryd.ntmps34
  go_wp2_with (refine wpList_appL (by rfl) (.tmp 8) (.tmp 9) (by rfl) _ xs (by rfl) h2 ao m c ys (by rfl) hl hm hno hn ?_; intro ao' n' c' w' g0 g1 g2 g3; obtain ⟨⟨d0, df⟩, HR⟩ := HZ.out ao' n' c' w' g0 g1 g2 g3; have HRR : Hid (WrRet p B (xs ++ ys) w (.returned (.tuple #[])) (w'.setCell ⟨p, 0, none⟩ (.slice ao' n' c'))) := HR; clear g0 g1 g2 g3 HR c0 hf)
  go_end0
  exact HRR.out
set_option maxHeartbeats 1000000 in
theorem wnum_as {k : Nm} {wd : Int} {f : Nat} (h8 : k.sz ≤ 8) {w : World} {p B : Nat} {xs : List Nat} (h : WrAt w p B xs) (hB : B ≤ w.heap.size) (n : Int) (hn : xs.length ≤ 10000000000) :
    Calls Tryd.prog 35 #[ptr p, numV k.sz wd f, .int .i64 n] w (WrRet p B (xs ++ k.put n) w) := by
  have hw0 := new_below w (.cells #[.int .i64 k.sz, .int .u8 wd, .func (.func f) #[] #[]] 75)
  have h2 := h.below hw0
  have o2 := Own.new w #[.int .i64 k.sz, .int .u8 wd, .func (.func f) #[] #[]] 75
  have hf0 : WrFr p B w (w.alloc (.cells #[.int .i64 k.sz, .int .u8 wd, .func (.func f) #[] #[]] 75)) := WrFr.of hw0
  have hs2 : B ≤ (w.alloc (.cells #[.int .i64 k.sz, .int .u8 wd, .func (.func f) #[] #[]] 75)).heap.size := Nat.le_trans hB hw0.size
  have hu0 : 0 ≤ n % 18446744073709551616 := Int.emod_nonneg _ (by decide)
  have hul : (n % 18446744073709551616).toNat < 18446744073709551616 := by omega
  have HU : Hid (((n % 18446744073709551616).toNat : Int) = n % 18446744073709551616) := Int.toNat_of_nonneg hu0
  by_cases hz : k.sz = 0
  · have hp : k.put n = [] := List.eq_nil_of_length_eq_zero (by rw [k.put_length, hz])
    rw [hp]
    have hz1 : (k.sz : Int) = 0 := by omega
    rw [hz1] at h2 o2 hf0 hs2 ⊢
    clear hz1 hz hp
    have HF : Hid (∀ W, Calls Tryd.prog 62 #[.int .u64 (n % 18446744073709551616), .int .i64 0] W fun e w' => e = .returned (.slice none 0 0) ∧ W = w') := fun W => fixed_none _ 0 W (by omega)
    have HW : Hid (∀ W, WrAt W p B xs → B ≤ W.heap.size → Calls Tryd.prog 34 #[ptr p, .slice none 0 0] W (WrRet p B (xs ++ []) W)) := fun W hW hs => wput_as hW hs none 0 0 [] ⟨by simp, by simp, .inl rfl⟩ rfl (fun _ => rfl) (by omega)
    clear hw0 h hB hu0 hul HU
    go_enter Tryd.func35, Tryd.ntmps35
    go_upto_region 1 with fail
    generalize w.alloc (.cells #[.int .i64 0, .int .u8 wd, .func (.func f) #[] #[]] 75) = w1 at *
    obtain ⟨d0, d1, d2, hg⟩ := own3 o2
    go_wp2_with fail
    refine (HF.out _).mono ?_
    rintro e w2 ⟨rfl, rfl⟩
    go_wp2_with fail
    refine (HW.out _ h2 hs2).mono ?_
    rintro e w3 ⟨rfl, h3, f3⟩
    have HZ : Hid (WrRet p B (xs ++ []) w (.returned (.tuple #[])) w3) := ⟨rfl, h3, hf0.trans f3⟩
    clear h3 f3 h2 hf0
    go_wp2
    go_end0
    exact HZ.out
  · have HF : Hid (∀ W, Calls Tryd.prog 62 #[.int .u64 (n % 18446744073709551616), .int .i64 (k.sz : Int)] W fun e w' => ∃ g, e = .returned (.slice (some ⟨g, 0, none⟩) k.sz k.sz) ∧ w'.ownsRow W.heap.size 5 1 (.slice (some ⟨g, 0, none⟩) k.sz k.sz) k.sz (nums (k.put n)) ∧ Below W.heap.size W w') := by
      intro W
      have := fixed_any (n % 18446744073709551616).toNat k.sz W hul (by omega) h8
      rw [HU.out] at this
      exact this
    have hlen : (k.put n).length = k.sz := k.put_length n
    have HW : Hid (∀ W g, WrAt W p B xs → B ≤ W.heap.size → W.ownsRow 0 5 1 (.slice (some ⟨g, 0, none⟩) k.sz k.sz) k.sz (nums (k.put n)) → Calls Tryd.prog 34 #[ptr p, .slice (some ⟨g, 0, none⟩) k.sz k.sz] W (WrRet p B (xs ++ k.put n) W)) := fun W g hW hs ho => wput_as hW hs (some ⟨g, 0, none⟩) k.sz k.sz (k.put n) (lies_row hlen.symm ho (k.put_byte n) (by omega)) hlen.symm (fun q => by cases q) (by omega)
    generalize k.put n = ys at *
    clear hu0 hul HU hB h hlen hw0
    go_enter Tryd.func35, Tryd.ntmps35
    go_upto_region 1 with fail
    generalize w.alloc (.cells #[.int .i64 (k.sz : Int), .int .u8 wd, .func (.func f) #[] #[]] 75) = w1 at *
    obtain ⟨d0, d1, d2, hg⟩ := own3 o2
    go_wp2_with fail
    refine (HF.out _).mono ?_
    rintro e w2 ⟨g, rfl, hro, b2⟩
    replace h2 := h2.below b2
    replace hs2 := Nat.le_trans hs2 b2.size
    replace hf0 := hf0.trans (WrFr.of b2)
    clear b2
    have hcall := HW.out w2 g h2 hs2 (World.ownsRow.mono hro (Nat.zero_le _))
    clear hro HW HF
    go_wp2_with fail
    refine hcall.mono ?_
    rintro e w3 ⟨rfl, h3, f3⟩
    have HZ : Hid (WrRet p B (xs ++ ys) w (.returned (.tuple #[])) w3) := ⟨rfl, h3, hf0.trans f3⟩
    clear h3 f3 h2 hf0 hcall
    go_wp2
    go_end0
    exact HZ.out
end Go.Proofs.YtjfdlphkmpkjdaaDoor
namespace Go.Proofs.YtjfdlphkmpkjdaaDoor
open Go.RowKit
set_option linter.unusedVariables false

/-- Arms that lie where a slice begins. -/
structure ArmLies (w : World) (ao : Option Addr) (ar : List (Int × Int)) : Prop where
  nums : ∀ y ∈ ar, (-9223372036854775808 ≤ y.1 ∧ y.1 ≤ 9223372036854775807) ∧ (-9223372036854775808 ≤ y.2 ∧ y.2 ≤ 9223372036854775807)
  lies : ar = [] ∨ ∃ b off, ao = some ⟨b, off, none⟩ ∧ b < w.heap.size ∧ ∀ i, i < ar.length → w.cell? ⟨b, off + i * 2, none⟩ = some (.int .i64 (ar.getD i (0, 0)).1) ∧ w.cell? ⟨b, off + i * 2 + 1, none⟩ = some (.int .i64 (ar.getD i (0, 0)).2)
theorem ArmLies.fr {w w' : World} {ao : Option Addr} {ar : List (Int × Int)} {F : Nat → Prop} (h : ArmLies w ao ar) (hf : Fr F w w') (ha : ∀ b off, ao = some ⟨b, off, none⟩ → b < w.heap.size → ¬ F b) : ArmLies w' ao ar := by
  refine ⟨h.nums, ?_⟩
  rcases h.lies with h0 | ⟨b, off, rfl, hb, hc⟩
  · exact .inl h0
  · have hbl := hf.block b hb (ha b off rfl hb)
    refine .inr ⟨b, off, rfl, Nat.lt_of_lt_of_le hb hf.size, fun i hi => ?_⟩
    have h1 := hc i hi
    unfold World.cell? at h1 ⊢
    simp only [hbl]
    exact h1
theorem ArmLies.below {w w' : World} {ao : Option Addr} {ar : List (Int × Int)} (h : ArmLies w ao ar) (hb : Below w.heap.size w w') : ArmLies w' ao ar := h.fr (F := fun _ => False) (Fr.of hb) (fun _ _ _ _ q => q)
theorem ArmLies.alloc {w : World} {ao : Option Addr} {ar : List (Int × Int)} (h : ArmLies w ao ar) (o : Obj) : ArmLies (w.alloc o) ao ar := h.below (new_below w o)
theorem rw_armLies {w : World} {v : Value} {ar : List (Int × Int)} (h : Rw w 44 2 v ar.length (armC ar)) (hn : ∀ y ∈ ar, (-9223372036854775808 ≤ y.1 ∧ y.1 ≤ 9223372036854775807) ∧ (-9223372036854775808 ≤ y.2 ∧ y.2 ≤ 9223372036854775807)) : ∃ ao cp, v = .slice ao ar.length cp ∧ ArmLies w ao ar := by
  obtain ⟨ao, cp, rfl, -⟩ := h.shape
  refine ⟨ao, cp, rfl, hn, ?_⟩
  by_cases h0 : ar = []
  · exact .inl h0
  · obtain ⟨g, cap, cur, e, ho, -⟩ := h.block (List.length_pos_iff.2 h0)
    cases e
    refine .inr ⟨g, 0, rfl, ho.lt, fun i hi => ?_⟩
    have := armC_get ar i hi
    exact ⟨by rw [Nat.zero_add]; exact h.cells _ _ this.1, by rw [Nat.zero_add]; exact h.cells _ _ this.2⟩
abbrev layC (l : Lay) (wa : Int) (fa : Nat) (wb : Int) (fb : Nat) : Array Value := #[.int .i64 l.a.sz, .int .u8 wa, .func (.func fa) #[] #[], .int .i64 l.b.sz, .int .u8 wb, .func (.func fb) #[] #[], .bool l.arms]
set_option maxHeartbeats 1000000 in
theorem lsize_as (l : Lay) (wa : Int) (fa : Nat) (wb : Int) (fb : Nat) (ha : l.a.sz ≤ 8) (hb : l.b.sz ≤ 8) (n : Nat) (hn : n ≤ 1000000) (w : World) :
    Calls Tryd.prog 33 #[layV l wa fa wb fb, .int .i64 (n : Int)] w fun e w' => e = .returned (.int .i64 (l.size n : Int)) ∧ Below w.heap.size w w' := by
  have oL := Own.new w (layC l wa fa wb fb) 77
  have hb0 := new_below w (.cells (layC l wa fa wb fb) 77)
  have HS : Hid ((l.size n : Int) = 1 + (l.a.sz : Int) + (l.b.sz : Int) + if l.arms = true then 2 + (n : Int) * 12 else 0) := by
    unfold Hid Lay.size
    split <;> simp
  obtain ⟨S, HS2⟩ : ∃ S : Int, Hid ((l.size n : Int) = S) := ⟨_, rfl⟩
  rw [HS2.out] at HS ⊢
  clear HS2
  obtain ⟨za, hza⟩ : ∃ za : Int, (l.a.sz : Int) = za := ⟨_, rfl⟩
  obtain ⟨zb, hzb⟩ : ∃ zb : Int, (l.b.sz : Int) = zb := ⟨_, rfl⟩
  have b1 : 0 ≤ za ∧ za ≤ 8 := by omega
  have b2 : 0 ≤ zb ∧ zb ≤ 8 := by omega
  unfold layC at oL hb0
  unfold layV
  rw [hza, hzb] at oL hb0 HS ⊢
  clear hza hzb ha hb
  cases har : l.arms with
  | false =>
    rw [har] at oL hb0 HS
    go_enter Tryd.func33, Tryd.ntmps33
    go_upto_region 1 with fail
    generalize w.alloc (.cells #[.int .i64 za, .int .u8 wa, .func (.func fa) #[] #[], .int .i64 zb, .int .u8 wb, .func (.func fb) #[] #[], .bool false] 77) = w1 at *
    obtain ⟨l0, l1, l2, l3, l4, l5, l6, lf⟩ := own7 oL
    go_wp2
    go_ret
    refine ⟨ret_int ?_, hb0⟩
    rw [HS.out]; simp
  | true =>
    rw [har] at oL hb0 HS
    go_enter Tryd.func33, Tryd.ntmps33
    go_upto_region 1 with fail
    generalize w.alloc (.cells #[.int .i64 za, .int .u8 wa, .func (.func fa) #[] #[], .int .i64 zb, .int .u8 wb, .func (.func fb) #[] #[], .bool true] 77) = w1 at *
    obtain ⟨l0, l1, l2, l3, l4, l5, l6, lf⟩ := own7 oL
    go_wp2_with fail
    refine (short_any _).mono ?_
    rintro e w2 ⟨rfl, c2⟩
    replace hb0 := hb0.trans (c2.mono hb0.size)
    clear c2
    go_wp2_with fail
    refine (value3 _).mono ?_
    rintro e w3 ⟨rfl, c3⟩
    replace hb0 := hb0.trans (c3.mono hb0.size)
    clear c3
    go_wp2_with fail
    refine (place_any _).mono ?_
    rintro e w4 ⟨rfl, c4⟩
    replace hb0 := hb0.trans (c4.mono hb0.size)
    clear c4
    go_wp2
    go_ret
    refine ⟨ret_int ?_, hb0⟩
    rw [HS.out]; simp; try omega
/-- The arms of an instruction: is each in bounds? -/
def armOk (x : Int) (y : Int × Int) : Bool := (nVal x).may y.1 && nPlace.may y.2
structure HaRel (w : World) (ao : Option Addr) (ar : List (Int × Int)) (x : Int) (g1 g2 f1 : Nat) (i : Value) (wr : World) : Prop where
  ex : ∃ k : Nat, k ≤ ar.length ∧ i = .int .i64 (k : Int) ∧ (ar.take k).all (armOk x) = true
  o1 : Own wr g1 #[.int .i64 8, .int .u8 3, .func (.func f1) #[] #[]] 75
  o2 : Own wr g2 #[.int .i64 4, .int .u8 0, .func (.func 82) #[] #[]] 75
  bel : Below w.heap.size w wr
set_option maxHeartbeats 2000000 in
set_option maxRecDepth 100000 in
theorem hasArms_yes (l : Lay) (wa : Int) (fa : Nat) (wb : Int) (fb : Nat) (har : l.arms = true) (x : Int) (hx : x = 1 ∨ x = 2 ∨ x = 3) {w : World} {ao : Option Addr} {cp : Nat} {ar : List (Int × Int)} (hl : ArmLies w ao ar) (n : Nat) (hn : n = ar.length) (hmx : n ≤ 65535) :
    Calls Tryd.prog 60 #[layV l wa fa wb fb, .int .u8 x, .slice ao n cp] w fun e w' => e = .returned (.bool (ar.all (armOk x))) ∧ Below w.heap.size w w' := by
  obtain ⟨f1, hf1, hval⟩ := value_as x (by omega)
  have oL := Own.new w (layC l wa fa wb fb) 77
  have hb0 := new_below w (.cells (layC l wa fa wb fb) 77)
  unfold layC at oL hb0
  unfold layV
  rw [har] at oL hb0 ⊢
  generalize (l.a.sz : Int) = za at *
  generalize (l.b.sz : Int) = zb at *
  have HLi : Hid (∀ wr, Below w.heap.size w wr → ArmLies wr ao ar) := fun wr h => hl.below h
  have HN : Hid (n = ar.length) := hn
  have hfn : ∀ (a : Array Value) (w : World), (callFunc f1 a).run Tryd.prog w = .ok (.enter f1 a) w := hf1.fn
  have HM1 : Hid (MayIs f1 (nVal x)) := hf1.may
  obtain ⟨Z, HZ⟩ : ∃ Z, Hid (ar.all (armOk x) = Z) := ⟨_, rfl⟩
  rw [HZ.out]
  clear hl hn hf1 hx har
  go_enter Tryd.func60, Tryd.ntmps60
  go_upto_region 1 with fail
  generalize w.alloc (.cells #[.int .i64 za, .int .u8 wa, .func (.func fa) #[] #[], .int .i64 zb, .int .u8 wb, .func (.func fb) #[] #[], .bool true] 77) = w1 at *
  obtain ⟨l0, l1, l2, l3, l4, l5, l6, lf⟩ := own7 oL
  go_wp2_with fail
  refine (hval _).mono ?_
  rintro e w2 ⟨rfl, c2⟩
  replace hb0 := hb0.trans (c2.mono hb0.size)
  clear c2 l0 l1 l2 l3 l4 l5 l6 lf oL hval
  go_wp2_with fail
  refine (place_any _).mono ?_
  rintro e w3 ⟨rfl, c3⟩
  replace hb0 := hb0.trans (c3.mono hb0.size)
  clear c3
  have o1 := (Own.new w3 #[.int .i64 8, .int .u8 3, .func (.func f1) #[] #[]] 75).alloc (.cells #[.int .i64 4, .int .u8 0, .func (.func 82) #[] #[]] 75)
  have o2 := Own.new (w3.alloc (.cells #[.int .i64 8, .int .u8 3, .func (.func f1) #[] #[]] 75)) #[.int .i64 4, .int .u8 0, .func (.func 82) #[] #[]] 75
  rw [World.size_alloc] at o2
  replace hb0 := (hb0.alloc hb0.size (.cells #[.int .i64 8, .int .u8 3, .func (.func f1) #[] #[]] 75)).alloc (Nat.le_trans hb0.size (by simp)) (.cells #[.int .i64 4, .int .u8 0, .func (.func 82) #[] #[]] 75)
  go_upto_region 6 with fail
  generalize (w3.alloc (.cells #[.int .i64 8, .int .u8 3, .func (.func f1) #[] #[]] 75)).alloc (.cells #[.int .i64 4, .int .u8 0, .func (.func 82) #[] #[]] 75) = w4 at *
  have REL : Hid (HaRel w ao ar x w3.heap.size (w3.heap.size + 1) f1 (.int .i64 0) w4) := ⟨⟨0, Nat.zero_le _, rfl, rfl⟩, o1, o2, hb0⟩
  clear o1 o2 hb0
  go_wp2_with fail
  go_loopw [25] (fun i wr => HaRel w ao ar x w3.heap.size (w3.heap.size + 1) f1 i wr) (fun i _ => n - (intOf i).toNat)
  case atStart => exact REL.out
  case round =>
    clear REL
    obtain ⟨⟨k, hk, rfl, hall⟩, o1, o2, hbel⟩ := hrel
    have hli := HLi.out wr hbel
    by_cases hlt : k < n
    · have hka : k < ar.length := by rw [← HN.out]; exact hlt
      rcases hli.lies with h0 | ⟨b, off, rfl, hbl, hc⟩
      · rw [h0] at hka; cases hka
      · obtain ⟨hc1, hc2⟩ := hc k hka
        obtain ⟨V, hV⟩ : ∃ V, ar.getD k (0, 0) = V := ⟨_, rfl⟩
        have hVm : V ∈ ar := by rw [← hV]; simp [List.getD, hka]
        have hVn := hli.nums V hVm
        rw [hV] at hc1 hc2
        have htk : ar.take (k + 1) = ar.take k ++ [V] := by rw [List.take_succ_eq_append_getElem hka]; congr 2; rw [← hV]; simp [List.getD, hka]
        obtain ⟨V1, V2⟩ := V
        simp only at hc1 hc2 hVn
        have M1 := HM1.out V1 
        have oA := Own.new wr #[.int .i64 V1, .int .i64 V2] 44
        have o1a := o1.alloc (.cells #[.int .i64 V1, .int .i64 V2] 44)
        have o2a := o2.alloc (.cells #[.int .i64 V1, .int .i64 V2] 44)
        have hba := hbel.alloc hbel.size (.cells #[.int .i64 V1, .int .i64 V2] 44)
        have HALL : Hid ((ar.take (k + 1)).all (armOk x) = armOk x (V1, V2)) := by unfold Hid; rw [htk, List.all_append, hall]; simp
        have HNO : Hid (armOk x (V1, V2) = false → Z = false) := by
          intro q
          rw [← HZ.out]
          have : (ar.take (k + 1)).all (armOk x) = false := by rw [HALL.out, q]
          rw [← List.take_append_drop (k + 1) ar, List.all_append, this]; rfl
        clear hc hV htk hall hVm hli
        go_upto_region 9 with fail
        generalize wr.alloc (.cells #[.int .i64 V1, .int .i64 V2] 44) = w5 at *
        obtain ⟨a0, a1, af⟩ := own2 oA
        obtain ⟨d0, d1, d2, df⟩ := own3 o1a
        obtain ⟨e0, e1, e2, ef⟩ := own3 o2a
        go_wp2_with fail
        refine (M1 _ hVn.1.1 hVn.1.2).mono ?_
        rintro e w6 ⟨rfl, rfl⟩
        cases m1 : (nVal x).may V1 with
        | false =>
          have hz : Z = false := HNO.out (by unfold armOk; rw [m1]; rfl)
          subst hz
          go_wp2
          go_ret
          exact ⟨rfl, hba⟩
        | true =>
          go_wp2_with fail
          refine (may_place V2 _ hVn.2.1 hVn.2.2).mono ?_
          rintro e w6 ⟨rfl, rfl⟩
          cases m2 : nPlace.may V2 with
          | false =>
            have hz : Z = false := HNO.out (by unfold armOk; rw [m1, m2]; rfl)
            subst hz
            go_wp2
            go_ret
            exact ⟨rfl, hba⟩
          | true =>
            have hok : armOk x (V1, V2) = true := by unfold armOk; rw [m1, m2]; rfl
            go_wp2
            go_roundw
            case rel => exact ⟨⟨k + 1, hka, by go_num, by rw [HALL.out, hok]⟩, o1a, o2a, hba⟩
            case measure => simp [intOf]; omega
    · have hz : Z = true := by
        rw [← HZ.out]
        rw [List.take_of_length_le (by rw [← HN.out]; omega)] at hall
        exact hall
      subst hz
      go_wp2
      go_ret
      exact ⟨rfl, hbel⟩
set_option maxHeartbeats 1000000 in
theorem hasArms_as (l : Lay) (wa : Int) (fa : Nat) (wb : Int) (fb : Nat) (x : Int) (hx : l.arms = true → x = 1 ∨ x = 2 ∨ x = 3) {w : World} {ao : Option Addr} {cp : Nat} {ar : List (Int × Int)} (hl : ArmLies w ao ar) (n : Nat) (hn : n = ar.length) (hmx : n ≤ 1000000) :
    Calls Tryd.prog 60 #[layV l wa fa wb fb, .int .u8 x, .slice ao n cp] w fun e w' => e = .returned (.bool (l.hasArms x ar)) ∧ Below w.heap.size w w' := by
  unfold Lay.hasArms
  cases har : l.arms with
  | false =>
    rw [if_neg (by simp)]
    have e1 : ar.isEmpty = ((n : Int) == 0) := by cases ar with | nil => rw [hn]; rfl | cons y r => rw [hn]; simp; omega
    rw [e1]
    have oL := Own.new w (layC l wa fa wb fb) 77
    have hb0 := new_below w (.cells (layC l wa fa wb fb) 77)
    unfold layC at oL hb0
    unfold layV
    rw [har] at oL hb0 ⊢
    generalize (l.a.sz : Int) = za at *
    generalize (l.b.sz : Int) = zb at *
    obtain ⟨N, hN⟩ : ∃ N : Int, (n : Int) = N := ⟨_, rfl⟩
    rw [hN]
    clear hl hn e1
    go_enter Tryd.func60, Tryd.ntmps60
    go_upto_region 1 with fail
    generalize w.alloc (.cells #[.int .i64 za, .int .u8 wa, .func (.func fa) #[] #[], .int .i64 zb, .int .u8 wb, .func (.func fb) #[] #[], .bool false] 77) = w1 at *
    obtain ⟨l0, l1, l2, l3, l4, l5, l6, lf⟩ := own7 oL
    go_wp2
    go_ret
    refine ⟨ret_bool ?_, hb0⟩
    first | rfl | (rw [← hN]; simp) | (rw [hN]) | simp [hN]
  | true =>
    rw [if_pos rfl]
    by_cases h6 : n ≤ 65535
    · rw [decide_eq_true (by omega), Bool.true_and]
      exact hasArms_yes l wa fa wb fb har x (hx har) hl n hn h6
    · rw [decide_eq_false (by omega), Bool.false_and]
      have oL := Own.new w (layC l wa fa wb fb) 77
      have hb0 := new_below w (.cells (layC l wa fa wb fb) 77)
      unfold layC at oL hb0
      unfold layV
      rw [har] at oL hb0 ⊢
      generalize (l.a.sz : Int) = za at *
      generalize (l.b.sz : Int) = zb at *
      have hN : (65535 : Int) < (n : Int) := by omega
      clear hl hn h6
      go_enter Tryd.func60, Tryd.ntmps60
      go_upto_region 1 with fail
      generalize w.alloc (.cells #[.int .i64 za, .int .u8 wa, .func (.func fa) #[] #[], .int .i64 zb, .int .u8 wb, .func (.func fb) #[] #[], .bool true] 77) = w1 at *
      obtain ⟨l0, l1, l2, l3, l4, l5, l6, lf⟩ := own7 oL
      go_wp2
      go_ret
      exact ⟨rfl, hb0⟩
/-- An instruction's value, its numbers in bounds, its arms lying somewhere. -/
structure InLies (w : World) (x : In) (ao : Option Addr) : Prop where
  op : x.op < 256
  a : -9223372036854775808 ≤ x.a ∧ x.a ≤ 9223372036854775807
  b : -9223372036854775808 ≤ x.b ∧ x.b ≤ 9223372036854775807
  arms : ArmLies w ao x.arms
theorem InLies.below {w w' : World} {x : In} {ao : Option Addr} (h : InLies w x ao) (hb : Below w.heap.size w w') : InLies w' x ao := ⟨h.op, h.a, h.b, h.arms.below hb⟩
theorem InLies.alloc {w : World} {x : In} {ao : Option Addr} (h : InLies w x ao) (o : Obj) : InLies (w.alloc o) x ao := h.below (new_below w o)
set_option maxHeartbeats 2000000 in
set_option maxRecDepth 100000 in
theorem has_as (l : Lay) (wa : Int) (fa : Nat) (wb : Int) (fb : Nat) (hok : l.Ok) (hka : NumIs l.a wa fa) (hkb : NumIs l.b wb fb) {w : World} {x : In} {ao : Option Addr} {cp : Nat} (hl : InLies w x ao) (n : Nat) (hn : n = x.arms.length) (hmx : n ≤ 1000000) :
    Calls Tryd.prog 32 #[layV l wa fa wb fb, insV x (.slice ao n cp)] w fun e w' => e = .returned (.bool (l.has x)) ∧ Below w.heap.size w w' := by
  have oL := (Own.new w (layC l wa fa wb fb) 77).alloc (.cells #[.int .u8 (x.op : Int), .int .i64 x.a, .int .i64 x.b, .slice ao n cp] 24)
  have oX := Own.new (w.alloc (.cells (layC l wa fa wb fb) 77)) #[.int .u8 (x.op : Int), .int .i64 x.a, .int .i64 x.b, .slice ao n cp] 24
  rw [World.size_alloc] at oX
  have hb0 : Below w.heap.size w ((w.alloc (.cells (layC l wa fa wb fb) 77)).alloc (.cells #[.int .u8 (x.op : Int), .int .i64 x.a, .int .i64 x.b, .slice ao n cp] 24)) := (new_below _ _).alloc (by simp) _
  have hna : ∀ (a : Array Value) (w : World), (callFunc fa a).run Tryd.prog w = .ok (.enter fa a) w := hka.fn
  have hnb : ∀ (a : Array Value) (w : World), (callFunc fb a).run Tryd.prog w = .ok (.enter fb a) w := hkb.fn
  have MA : Hid (∀ W, Calls Tryd.prog fa #[.int .i64 x.a] W fun e w' => e = .returned (.bool (l.a.may x.a)) ∧ W = w') := fun W => hka.may _ W hl.a.1 hl.a.2
  have MB : Hid (∀ W, Calls Tryd.prog fb #[.int .i64 x.b] W fun e w' => e = .returned (.bool (l.b.may x.b)) ∧ W = w') := fun W => hkb.may _ W hl.b.1 hl.b.2
  have MC : Hid (l.a.may x.a = true → ∀ W, Below w.heap.size w W → Calls Tryd.prog 60 #[layV l wa fa wb fb, .int .u8 (IntKind.u8.wrap x.a), .slice ao n cp] W fun e w' => e = .returned (.bool (l.hasArms x.a x.arms)) ∧ Below W.heap.size W w') := by
    intro hma W hW
    by_cases har : l.arms = true
    · have hw := hok.w har
      rw [hw] at hma
      have h3 := of_decide_eq_true hma
      have h13 : 1 ≤ x.a ∧ x.a ≤ 3 := h3
      have e : IntKind.u8.wrap x.a = x.a := by rw [IntKind.wrap_u8]; omega
      rw [e]
      exact hasArms_as l wa fa wb fb x.a (fun _ => by omega) (hl.arms.below hW) n hn hmx
    · have e : l.hasArms x.a x.arms = l.hasArms (IntKind.u8.wrap x.a) x.arms := by unfold Lay.hasArms; rw [if_neg har, if_neg har]
      rw [e]
      exact hasArms_as l wa fa wb fb _ (fun q => absurd q har) (hl.arms.below hW) n hn hmx
  unfold Lay.has
  unfold layC at oL oX hb0
  unfold layV at MC ⊢
  unfold insV
  generalize l.hasArms x.a x.arms = R3 at *
  generalize l.b.may x.b = R2 at *
  generalize l.a.may x.a = R1 at *
  generalize (l.a.sz : Int) = za at *
  generalize (l.b.sz : Int) = zb at *
  generalize l.arms = za2 at *
  generalize (x.op : Int) = N at *
  generalize x.a = XA at *
  generalize x.b = XB at *
  have HW : Hid (IntKind.u8.wrap XA = XA % 256) := by unfold Hid; rw [IntKind.wrap_u8]
  clear hka hkb hok hl hn
  go_enter Tryd.func32, Tryd.ntmps32
  go_upto_region 1 with fail
  generalize (w.alloc (.cells #[.int .i64 za, .int .u8 wa, .func (.func fa) #[] #[], .int .i64 zb, .int .u8 wb, .func (.func fb) #[] #[], .bool za2] 77)).alloc (.cells #[.int .u8 N, .int .i64 XA, .int .i64 XB, .slice ao n cp] 24) = w1 at *
  obtain ⟨l0, l1, l2, l3, l4, l5, l6, lf⟩ := own7 oL
  obtain ⟨x0, x1, x2, x3, xf⟩ := own4 oX
  go_wp2_with fail
  refine (MA.out _).mono ?_
  rintro e w2 ⟨rfl, rfl⟩
  cases R1 with
  | false =>
    go_wp2
    go_ret
    exact ⟨rfl, hb0⟩
  | true =>
    have MC2 := MC.out rfl w1 hb0
    clear MC
    go_wp2_with fail
    refine (MB.out _).mono ?_
    rintro e w2 ⟨rfl, rfl⟩
    cases R2 with
    | false =>
      go_wp2
      go_ret
      exact ⟨rfl, hb0⟩
    | true =>
      go_wp2_with fail
      first | skip | rw [← HW.out]
      refine MC2.mono ?_
      rintro e w3 ⟨rfl, b3⟩
      have hb3 := hb0.trans (b3.mono hb0.size)
      clear b3 MC2 MA MB
      go_wp2
      go_ret
      exact ⟨rfl, hb3⟩
end Go.Proofs.YtjfdlphkmpkjdaaDoor
namespace Go.Proofs.YtjfdlphkmpkjdaaDoor
open Go.RowKit
set_option linter.unusedVariables false

theorem WrAt.drew {w : World} {p B : Nat} {xs : List Nat} (h : WrAt w p B xs) : WrAt w.drew p B xs := h
theorem WrAt.alloc {w : World} {p B : Nat} {xs : List Nat} (h : WrAt w p B xs) (o : Obj) : WrAt (w.alloc o) p B xs := h.below (new_below w o)
structure WaRel (w : World) (p B : Nat) (xs : List Nat) (ar : List (Int × Int)) (i : Value) (wr : World) : Prop where
  ex : ∃ k : Nat, k ≤ ar.length ∧ i = .int .i64 (k : Int) ∧ WrAt wr p B (xs ++ ((ar.take k).map putArm).flatten)
  fr : WrFr p B w wr
theorem arm_flat_len (ar : List (Int × Int)) (k : Nat) : (((ar.take k).map putArm).flatten).length ≤ ar.length * 12 := by
  rw [putArms_flat, List.length_take]; omega
set_option maxHeartbeats 4000000 in
set_option maxRecDepth 100000 in
theorem warms_as {w : World} {p B : Nat} {xs : List Nat} (h : WrAt w p B xs) (hB : B ≤ w.heap.size) (hp : B ≤ p) {ao : Option Addr} {cp : Nat} {ar : List (Int × Int)} (hl : ArmLies w ao ar) (hab : ∀ b off, ao = some ⟨b, off, none⟩ → ar ≠ [] → b < B) (n : Nat) (hn : n = ar.length) (hmx : n ≤ 1000000) (hxs : xs.length ≤ 1000000) :
    Calls Tryd.prog 36 #[ptr p, .slice ao n cp] w (WrRet p B (xs ++ (nShort.put ar.length ++ (ar.map putArm).flatten)) w) := by
  have HLi : Hid (∀ wr, WrFr p B w wr → ArmLies wr ao ar) := by
    intro wr hf
    by_cases h0 : ar = []
    · subst h0; exact ⟨hl.nums, .inl rfl⟩
    · exact hl.fr hf.fr (fun b off e _ q => by have := hab b off e h0; omega)
  have HN : Hid (n = ar.length) := hn
  have hnn : (ar.length : Int) = (n : Int) := by omega
  rw [hnn, ← List.append_assoc]
  clear hl hab hnn hn
  go_enter Tryd.func36, Tryd.ntmps36
  go_wp2_with fail
  refine (short_any _).mono ?_
  rintro e w1 ⟨rfl, b1⟩
  replace h := h.below b1
  have hf1 : WrFr p B w w1 := WrFr.of b1
  have hB1 := Nat.le_trans hB b1.size
  clear b1
  have hc1 := wnum_as (k := nShort) (wd := 0) (f := 79) (by decide) h hB1 (n : Int) (by omega)
  go_wp2_with fail
  refine hc1.mono ?_
  rintro e w2 ⟨rfl, h2, f2⟩
  have hf2 := hf1.trans f2
  have hlen2 : (xs ++ nShort.put (n : Int)).length ≤ 1000002 := by rw [List.length_append, Nm.put_length]; show _ + 2 ≤ _; omega
  generalize hys : xs ++ nShort.put (n : Int) = ys at *
  clear hc1 f2 hf1 h hys
  have REL : Hid (WaRel w p B ys ar (.int .i64 0) w2) := ⟨⟨0, Nat.zero_le _, rfl, by simpa using h2⟩, hf2⟩
  clear h2 hf2
  go_wp2_with fail
  go_loopw [13] (fun i wr => WaRel w p B ys ar i wr) (fun i _ => n - (intOf i).toNat)
  case atStart => exact REL.out
  case round =>
    clear REL
    obtain ⟨⟨k, hk, rfl, hw⟩, hf⟩ := hrel
    have hli := HLi.out wr hf
    have hBr : B ≤ wr.heap.size := Nat.le_trans hB hf.fr.size
    by_cases hlt : k < n
    · have hka : k < ar.length := by rw [← HN.out]; exact hlt
      rcases hli.lies with h0 | ⟨b, off, rfl, hbl, hc⟩
      · rw [h0] at hka; cases hka
      · obtain ⟨hc1, hc2⟩ := hc k hka
        obtain ⟨V, hV⟩ : ∃ V, ar.getD k (0, 0) = V := ⟨_, rfl⟩
        rw [hV] at hc1 hc2
        have htk : ar.take (k + 1) = ar.take k ++ [V] := by rw [List.take_succ_eq_append_getElem hka]; congr 2; rw [← hV]; simp [List.getD, hka]
        obtain ⟨V1, V2⟩ := V
        simp only at hc1 hc2
        obtain ⟨zs, hzs⟩ : ∃ zs, zs = ys ++ ((ar.take k).map putArm).flatten := ⟨_, rfl⟩
        have hzl : zs.length ≤ 100000000 := by
          have := arm_flat_len ar k
          have := HN.out
          rw [hzs, List.length_append]; omega
        have HT : Hid (ys ++ ((ar.take (k + 1)).map putArm).flatten = (zs ++ nI64.put V1) ++ nPlace.put V2) := by
          unfold Hid
          rw [hzs, htk, List.map_append, List.flatten_append]; simp [putArm]
        rw [← hzs] at hw
        have oA := Own.new wr #[.int .i64 V1, .int .i64 V2] 44
        have hwa := hw.alloc (.cells #[.int .i64 V1, .int .i64 V2] 44)
        have hfa := hf.trans (WrFr.of (new_below wr (.cells #[.int .i64 V1, .int .i64 V2] 44)))
        have hgp : wr.heap.size ≠ p := by have := hw.choose_spec.1.lt; omega
        clear hc hV htk hli hw hf hzs
        go_upto_region 4 with fail
        have hsz : (wr.alloc (.cells #[.int .i64 V1, .int .i64 V2] 44)).heap.size = wr.heap.size + 1 := World.size_alloc _ _
        generalize wr.alloc (.cells #[.int .i64 V1, .int .i64 V2] 44) = w5 at *
        have hB5 : B ≤ w5.heap.size := by omega
        have hwd := hwa.drew
        have oAd := oA.drew
        have hfd : WrFr p B w w5.drew := hfa.trans ⟨(Fr.refl _ w5).drew, fun g cs t k1 _ _ => k1.drew⟩
        obtain ⟨a0, a1, af⟩ := own2 oAd
        clear hwa oA hfa
        go_region_held3 (fun w' => w'.cell? ⟨wr.heap.size, 0, none⟩ = some (.int .i64 V1)) (go_keep)
          (first
            | (have hz := oB; clear hz; go_at_call 35; refine (wnum_as (k := nI64) (wd := 3) (f := 78) (by decide) hwB hBB V1 (by omega)).mono ?_; rintro en wC ⟨rfl, hwC, fC⟩; have oC := fC.typ _ _ _ oB (by decide) hgp; have hfC := hfB.trans fC; obtain ⟨c0, c1, cf⟩ := own2 oC)
            | (go_at_call 61; refine (value3 _).mono ?_; rintro en wB ⟨rfl, bB⟩; have hwB := hwd.below bB; have oB := oAd.below bB; have hfB := hfd.trans (WrFr.of bB); have hBB : B ≤ wB.heap.size := Nat.le_trans hB5 bB.size; obtain ⟨b0, b1, bf⟩ := own2 oB)
            | fail)
        have hBC : B ≤ wC.heap.size := Nat.le_trans hBB fC.fr.size
        have hlC : (zs ++ nI64.put V1).length ≤ 1000000000 := by rw [List.length_append, Nm.put_length]; show _ + 8 ≤ _; omega
        generalize zs ++ nI64.put V1 = zt at *
        clear a0 a1 af b0 b1 bf c0 c1 cf hwB oB hfB fC hwd oAd hfd hB5
        have hwd := hwC.drew
        have oAd := oC.drew
        have hfd : WrFr p B w wC.drew := hfC.trans ⟨(Fr.refl _ wC).drew, fun g cs t k1 _ _ => k1.drew⟩
        obtain ⟨a0, a1, af⟩ := own2 oAd
        clear hwC oC hfC
        go_upto_region 5 with fail
        go_region_held3 (fun w' => w'.cell? ⟨wr.heap.size, 1, none⟩ = some (.int .i64 V2)) (go_keep)
          (first
            | (have hz := oB; clear hz; go_at_call 35; refine (wnum_as (k := nPlace) (wd := 0) (f := 82) (by decide) hwB hBB V2 (by omega)).mono ?_; rintro en wD ⟨rfl, hwD, fD⟩; have oD := fD.typ _ _ _ oB (by decide) hgp; have hfD := hfB.trans fD; obtain ⟨c0, c1, cf⟩ := own2 oD)
            | (go_at_call 58; refine (place_any _).mono ?_; rintro en wB ⟨rfl, bB⟩; have hwB := hwd.below bB; have oB := oAd.below bB; have hfB := hfd.trans (WrFr.of bB); have hBB : B ≤ wB.heap.size := Nat.le_trans hBC bB.size; obtain ⟨b0, b1, bf⟩ := own2 oB)
            | fail)
        go_wp2
        go_roundw
        case rel => exact ⟨⟨k + 1, hka, by go_num, by rw [HT.out]; exact hwD⟩, hfD⟩
        case measure => simp [intOf]; omega
    · have hka : ar.take k = ar := List.take_of_length_le (by rw [← HN.out]; omega)
      rw [hka] at hw
      have HZ : Hid (WrRet p B (ys ++ (ar.map putArm).flatten) w (.returned (.tuple #[])) wr) := ⟨rfl, hw, hf⟩
      clear hw hf hli
      go_wp2
      go_end0
      exact HZ.out
set_option maxHeartbeats 2000000 in
set_option maxRecDepth 100000 in
theorem size_as {w : World} {x : In} {ao : Option Addr} {cp : Nat} (hl : InLies w x ao) (n : Nat) (hn : n = x.arms.length) (hmx : n ≤ 1000000) :
    Calls Tryd.prog 16 #[insV x (.slice ao n cp)] w fun e w' => e = .returned (.int .i64 (x.size : Int)) ∧ Below w.heap.size w w' := by
  have oX := Own.new w #[.int .u8 (x.op : Int), .int .i64 x.a, .int .i64 x.b, .slice ao n cp] 24
  have hb0 := new_below w (.cells #[.int .u8 (x.op : Int), .int .i64 x.a, .int .i64 x.b, .slice ao n cp] 24)
  have hlx := hl.alloc (.cells #[.int .u8 (x.op : Int), .int .i64 x.a, .int .i64 x.b, .slice ao n cp] 24)
  unfold In.size
  rcases lay_as x.op with ⟨h1, h2⟩ | ⟨l, wa, fa, wb, fb, h1, hka, hkb, h4⟩
  · rw [h1]
    show Calls _ _ _ _ fun e w' => e = .returned (.int .i64 0) ∧ _
    unfold insV
    clear hl hlx hn
    generalize (x.op : Int) = N at *
    go_enter Tryd.func16, Tryd.ntmps16
    go_upto_region 1 with fail
    generalize w.alloc (.cells #[.int .u8 N, .int .i64 x.a, .int .i64 x.b, .slice ao n cp] 24) = w1 at *
    obtain ⟨x0, x1, x2, x3, xf⟩ := own4 oX
    go_wp2_with fail
    refine (h2 _).mono ?_
    rintro e w2 ⟨rfl, b2⟩
    replace hb0 := hb0.trans (b2.mono hb0.size)
    clear b2 x0 x1 x2 x3 xf oX
    go_wp2
    go_ret
    exact ⟨rfl, hb0.alloc hb0.size _⟩
  · rw [h1]
    simp only
    have hok := (lay_ok h1).1
    have HAS : Hid (∀ W, Below w.heap.size w W → Calls Tryd.prog 32 #[layV l wa fa wb fb, insV x (.slice ao n cp)] W fun e w' => e = .returned (.bool (l.has x)) ∧ Below W.heap.size W w') := fun W hW => has_as l wa fa wb fb hok hka hkb (hl.below hW) n hn hmx
    have HSZ : Hid (∀ W, Calls Tryd.prog 33 #[layV l wa fa wb fb, .int .i64 (n : Int)] W fun e w' => e = .returned (.int .i64 (l.size x.arms.length : Int)) ∧ Below W.heap.size W w') := fun W => by rw [← hn]; exact lsize_as l wa fa wb fb hka.ok.sz hkb.ok.sz n hmx W
    obtain ⟨Z, hZ⟩ : ∃ Z : Int, ((if l.has x = true then l.size x.arms.length else 0 : Nat) : Int) = Z := ⟨_, rfl⟩
    rw [hZ]
    have HZZ : Hid (Z = if l.has x = true then (l.size x.arms.length : Int) else 0) := by unfold Hid; rw [← hZ]; split <;> rfl
    generalize l.has x = H at *
    generalize (l.size x.arms.length : Int) = SZ at *
    unfold insV at HAS ⊢
    unfold layV at HAS HSZ h4
    clear hl hlx hn hka hkb hok h1 hZ
    generalize (l.a.sz : Int) = za at *
    generalize (l.b.sz : Int) = zb at *
    generalize l.arms = zc at *
    generalize (x.op : Int) = N at *
    go_enter Tryd.func16, Tryd.ntmps16
    go_upto_region 1 with fail
    generalize w.alloc (.cells #[.int .u8 N, .int .i64 x.a, .int .i64 x.b, .slice ao n cp] 24) = w1 at *
    obtain ⟨x0, x1, x2, x3, xf⟩ := own4 oX
    go_wp2_with fail
    refine (h4 _).mono ?_
    rintro e w2 ⟨rfl, b2⟩
    replace hb0 := hb0.trans (b2.mono hb0.size)
    replace oX := oX.below b2
    clear b2 x0 x1 x2 x3 xf h4
    have oL := Own.new w2 #[.int .i64 za, .int .u8 wa, .func (.func fa) #[] #[], .int .i64 zb, .int .u8 wb, .func (.func fb) #[] #[], .bool zc] 77
    replace oX := oX.alloc (.cells #[.int .i64 za, .int .u8 wa, .func (.func fa) #[] #[], .int .i64 zb, .int .u8 wb, .func (.func fb) #[] #[], .bool zc] 77)
    replace hb0 := hb0.alloc hb0.size (.cells #[.int .i64 za, .int .u8 wa, .func (.func fa) #[] #[], .int .i64 zb, .int .u8 wb, .func (.func fb) #[] #[], .bool zc] 77)
    go_upto_region 2 with fail
    generalize w2.alloc (.cells #[.int .i64 za, .int .u8 wa, .func (.func fa) #[] #[], .int .i64 zb, .int .u8 wb, .func (.func fb) #[] #[], .bool zc] 77) = w3 at *
    obtain ⟨x0, x1, x2, x3, xf⟩ := own4 oX
    obtain ⟨l0, l1, l2, l3, l4, l5, l6, lf⟩ := own7 oL
    have hcall := HAS.out w3 hb0
    go_wp2_with fail
    refine hcall.mono ?_
    rintro e w4 ⟨rfl, b4⟩
    replace hb0 := hb0.trans (b4.mono hb0.size)
    replace oX := oX.below b4
    replace oL := oL.below b4
    clear b4 hcall HAS x0 x1 x2 x3 xf l0 l1 l2 l3 l4 l5 l6 lf
    obtain ⟨x0, x1, x2, x3, xf⟩ := own4 oX
    obtain ⟨l0, l1, l2, l3, l4, l5, l6, lf⟩ := own7 oL
    cases H with
    | false =>
      have hz : Z = 0 := by rw [HZZ.out]; rfl
      clear HZZ
      subst hz
      go_wp2
      go_ret
      exact ⟨rfl, hb0⟩
    | true =>
      have hz : Z = SZ := by rw [HZZ.out]; rfl
      clear HZZ
      subst hz
      go_wp2_with fail
      refine (HSZ.out _).mono ?_
      rintro e w5 ⟨rfl, b5⟩
      replace hb0 := hb0.trans (b5.mono hb0.size)
      clear b5
      go_wp2
      go_ret
      exact ⟨rfl, hb0⟩
end Go.Proofs.YtjfdlphkmpkjdaaDoor
