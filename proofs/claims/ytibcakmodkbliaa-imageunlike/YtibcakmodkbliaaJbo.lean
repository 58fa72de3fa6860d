/-
  THE MODULE WITHOUT ANYTHING: Check's parts, the writer, the body.
  slices.Grow of nothing, slices.Concat of rows of bytes.
  THE MODULE WITHOUT ANYTHING, as bytes: Encode, works.
  A MODULE's BYTES: bodyOf, Encode.
  ImageUnlike, walked.
-/
import Derived.Test.YtibcakmodkbliaaJwt
import Derived.Test.YtibcakmodkbliaaMb
import Derived.Test.YtibcakmodkbliaaLb
import Derived.Lib.AppendZeros
import Derived.Laws.AppendOwn
import Derived.Test.YtibcakmodkbliaaWi
import Derived.Test.YtibcakmodkbliaaV5
import Derived.Lib.SlBytesConst
import Derived.Test.YtibcakmodkbliaaJms
import Derived.Test.YtibcakmodkbliaaMp
namespace Go.Proofs.Ytibcakmodkbliaa
open Go.RowKit
set_option linter.unusedVariables false

abbrev zMo : Array Value := #[.slice none 0 0, .slice none 0 0, .slice none 0 0]
set_option maxHeartbeats 1000000 in
set_option maxRecDepth 100000 in
theorem parts_empty (w : World) : Calls Try.prog 14 #[.agg zMo] w fun e w' => e = .returned (.int .i64 0) ∧ Below w.heap.size w w' := by
  have o1 := Own.new w zMo 26
  have hb := new_below w (.cells zMo 26)
  go_enter Try.func14, Try.ntmps14
  go_upto_region 1 with fail
  generalize w.alloc (.cells zMo 26) = w1 at *
  obtain ⟨x0, x1, x2, xf⟩ := own3 o1
  go_wp2_with fail
  go_loopw [30] (fun i wr => i = .int .i64 0 ∧ wr = w1) (fun _ _ => 0)
  case atStart => exact ⟨rfl, rfl⟩
  case round =>
    obtain ⟨rfl, e0⟩ := hrel
    have e0 := e0.symm
    subst e0
    go_wp2_with fail
    go_loopw [44] (fun i wr => i = .int .i64 0 ∧ wr = w1) (fun _ _ => 0)
    case atStart => exact ⟨rfl, rfl⟩
    case round =>
      obtain ⟨rfl, e0⟩ := hrel
      have e0 := e0.symm
      subst e0
      go_wp2_with fail
      go_loopw [55] (fun i wr => i = .int .i64 0 ∧ wr = w1) (fun _ _ => 0)
      case atStart => exact ⟨rfl, rfl⟩
      case round =>
        obtain ⟨rfl, e0⟩ := hrel
        have e0 := e0.symm
        subst e0
        go_wp2
        go_ret
        exact ⟨rfl, hb⟩
theorem put0 : Q01.putN 0 = [0] := rfl
theorem inum0 {w : World} {p B : Nat} {s : Ws} (h : IwAt w p B s) (hB : B ≤ w.heap.size) : Calls Try.prog 23 #[ptr p, .int .i64 0] w (IwRet p B (s.put [0]) w) := by
  have := inumber_as h hB 0 (by omega) (by rw [put0]; simp) (by rw [put0]; simp)
  rw [put0] at this
  exact this
set_option maxHeartbeats 2000000 in
set_option maxRecDepth 100000 in
theorem module_empty {w : World} {p B : Nat} (h : IwAt w p B ([], false)) (hB : B ≤ w.heap.size) :
    Calls Try.prog 15 #[ptr p, .agg zMo] w (IwRet p B ([0, 0, 0], false) w) := by
  have o1 := Own.new w zMo 26
  have hb := new_below w (.cells zMo 26)
  have hp : ¬ w.heap.size = p := by obtain ⟨_, a, c, h1, -⟩ := h; have := h1.lt; omega
  have h1 := h.below hb
  have HB : Hid (B ≤ w.heap.size) := hB
  clear h hB
  go_enter Try.func15, Try.ntmps15
  go_upto_region 1 with fail
  have hs : w.heap.size ≤ (w.alloc (.cells zMo 26)).heap.size := hb.size
  have f1 : IwFr p B w (w.alloc (.cells zMo 26)) := IwFr.of hb
  generalize w.alloc (.cells zMo 26) = w1 at *
  generalize w.heap.size = g at *
  obtain ⟨x0, x1, x2, xf⟩ := own3 o1
  go_wp2_with fail
  refine Calls.mono (inum0 h1 (Nat.le_trans HB.out hs)) ?_
  rintro e w2 ⟨rfl, h2, f2⟩
  have o2 := f2.typ g _ _ o1 (by decide) hp
  have s2 : g ≤ w2.heap.size := Nat.le_trans hs f2.fr.size
  have f12 := f1.trans f2
  clear x0 x1 x2 xf o1 h1 f1 f2 hs hb
  obtain ⟨x0, x1, x2, xf⟩ := own3 o2
  go_wp2_with fail
  go_loopw [18] (fun i wr => i = .int .i64 0 ∧ wr = w2) (fun _ _ => 0)
  case atStart => exact ⟨rfl, rfl⟩
  case round =>
    obtain ⟨rfl, rfl⟩ := hrel
    go_wp2_with fail
    refine Calls.mono (inum0 h2 (Nat.le_trans HB.out s2)) ?_
    rintro e w3 ⟨rfl, h3, f3⟩
    have o3 := f3.typ g _ _ o2 (by decide) hp
    have s3 : g ≤ w3.heap.size := Nat.le_trans s2 f3.fr.size
    have f13 := f12.trans f3
    clear x0 x1 x2 xf o2 h2 f12 f3 s2
    obtain ⟨x0, x1, x2, xf⟩ := own3 o3
    go_wp2_with fail
    go_loopw [34] (fun i wr => i = .int .i64 0 ∧ wr = w3) (fun _ _ => 0)
    case atStart => exact ⟨rfl, rfl⟩
    case round =>
      obtain ⟨rfl, rfl⟩ := hrel
      go_wp2_with fail
      refine Calls.mono (inum0 h3 (Nat.le_trans HB.out s3)) ?_
      rintro e w4 ⟨rfl, h4, f4⟩
      have o4 := f4.typ g _ _ o3 (by decide) hp
      have f14 := f13.trans f4
      clear x0 x1 x2 xf o3 h3 f13 f4 s3
      obtain ⟨x0, x1, x2, xf⟩ := own3 o4
      have HR : Hid (IwAt w4 p B ([0, 0, 0], false) ∧ IwFr p B w w4) := ⟨h4, f14⟩
      clear h4 f14
      go_wp2_with fail
      go_loopw [50] (fun i wr => i = .int .i64 0 ∧ wr = w4) (fun _ _ => 0)
      case atStart => exact ⟨rfl, rfl⟩
      case round =>
        obtain ⟨rfl, rfl⟩ := hrel
        go_wp2
        go_end0
        exact ⟨rfl, HR.out⟩
set_option maxHeartbeats 2000000 in
set_option maxRecDepth 100000 in
theorem body_empty (w : World) : Calls Try.prog 8 #[.agg zMo] w fun e w' => ∃ a c, e = .returned (.tuple #[.slice a 3 c, .int .i64 0]) ∧ Rw w' 5 1 (.slice a 3 c) 3 (nums [0, 0, 0]) ∧ (∀ b, (Value.slice a 3 c).ownBlock = some b → w.heap.size ≤ b) ∧ Below w.heap.size w w' := by
  have o1 := Own.new w zMo 26
  have hb := new_below w (.cells zMo 26)
  go_enter Try.func8, Try.ntmps8
  go_upto_region 1 with fail
  generalize w.alloc (.cells zMo 26) = w1 at *
  obtain ⟨x0, x1, x2, xf⟩ := own3 o1
  go_wp2_with fail
  refine Calls.mono (parts_empty w1) ?_
  rintro e w2 ⟨rfl, b2⟩
  replace o1 := o1.below b2
  replace hb := hb.trans (b2.mono hb.size)
  clear x0 x1 x2 xf b2
  have oW := Own.new w2 #[.slice none 0 0, .bool false] 51
  have o3 := o1.alloc (.cells #[.slice none 0 0, .bool false] 51)
  have hs2 := hb.size
  have hb3 := hb.alloc hb.size (.cells #[.slice none 0 0, .bool false] 51)
  have hA : IwAt (w2.alloc (.cells #[.slice none 0 0, .bool false] 51)) w2.heap.size w.heap.size ([], false) := ⟨by simp, none, 0, oW, World.ownsRow_nil _ _ _ _, by simp [Value.ownBlock]⟩
  go_upto_region 5 with fail
  have hgp : ¬ w.heap.size = w2.heap.size := by have := o1.lt; omega
  generalize w2.alloc (.cells #[.slice none 0 0, .bool false] 51) = w3 at *
  obtain ⟨p, hp⟩ : ∃ p, w2.heap.size = p := ⟨_, rfl⟩
  rw [hp] at oW hA hgp hs2
  rw [hp]
  obtain ⟨x0, x1, x2, xf⟩ := own3 o3
  go_wp2_with fail
  refine Calls.mono (module_empty hA hb3.size) ?_
  rintro e w4 ⟨rfl, ⟨h40, a, c, o4, r4, n4⟩, f4⟩
  have o4 : Own w4 p #[.slice a 3 c, .bool false] 51 := o4
  have hb4 := below_fr hb3 f4.fr (fun g q => by rcases q with rfl | q <;> omega)
  have HR : Hid (Rw w4 5 1 (.slice a 3 c) 3 (nums [0, 0, 0]) ∧ (∀ b, (Value.slice a 3 c).ownBlock = some b → w.heap.size ≤ b) ∧ Below w.heap.size w w4) := ⟨r4, n4, hb4⟩
  clear x0 x1 x2 xf r4 n4 hb4 f4 h40
  obtain ⟨y0, y1, yf⟩ := own2 o4
  go_wp2
  go_ret2
  exact ⟨a, c, rfl, HR.out⟩
end Go.Proofs.Ytibcakmodkbliaa
namespace Go.Proofs.Ytibcakmodkbliaa
open Go.RowKit Go.Lib
set_option linter.unusedVariables false

theorem wpList_appRg {t t' : TypeId} {W W' : World} {ops : Array Oper} {rest : List Oper} {o : Oper} {a : Act} {Q : Exit → Act → World → Prop} (hgd : o.guard = none) (s x : Operand)
    (ho : o.op = .call { callee := .builtin .append, args := #[s, x], argTypes := #[t, t'] }) (v u r : Value) (hs : a.eval s = v) (hx : a.eval x = u) (hrun : (Builtin.append_ #[t, t'] o.type #[v, u]).run Try.prog W = .ok r W')
    (h : wpList Try.prog ops Q rest (a.put o.dst r) W') : wpList Try.prog ops Q (o :: rest) a W := by
  refine wpList_plain hgd fun K hK => ?_
  unfold Oper.wp execOp
  simp only [ho, resolve, invoke, builtin, Sem.run_bind, Sem.run_pure, Result.andThen_ok, List.map_toArray, List.map_cons, List.map_nil, hs, hx, hrun]
  exact hK _ _ h
theorem zeroCells_size (z : Array Value) (n : Nat) : (Builtin.zeroCells z n).size = n * z.size := by simp [Builtin.zeroCells]
set_option maxHeartbeats 2000000 in
set_option maxRecDepth 100000 in
theorem grow_nil (n : Nat) (h0 : 0 < n) (hn : n ≤ 1000000000) (w : World) :
    Calls Try.prog 18 #[.slice none 0 0, .int .i64 (n : Int)] w fun e w' => ∃ g c, e = .returned (.slice (some ⟨g, 0, none⟩) 0 c) ∧ Rw w' 5 1 (.slice (some ⟨g, 0, none⟩) 0 c) 0 [] ∧ w.heap.size ≤ g ∧ Below w.heap.size w w' := by
  obtain ⟨i8, hi, hz0, hz1, hz2⟩ := info_parts info8
  have hrz : ∀ (ty : TypeId) (W : World), (Builtin.append_ #[29, 3] ty #[.slice none 0 0, .int .i64 (n : Int)]).run Try.prog W = .ok (.slice (some ⟨W.heap.size, 0, none⟩) n (grownCap W n 0 5)) (W.drew.alloc (.cells (Builtin.zeroCells (Value.int .u8 0).cells n ++ Builtin.zeroCells (Value.int .u8 0).cells (grownCap W n 0 5 - n)) 5)) :=
    fun ty W => run_append_nil_zeros (P := Try.prog) W 29 3 ty 5 i8 (.int .u8 0) .i64 .i64 Try.underlying29 Try.underlying3 hi hz0 n h0 (by rw [hz1]; omega) (by omega) (by rw [hz2]; omega)
  obtain ⟨C, W1, hrun, RES, hb1, hC1⟩ : ∃ (C : Nat) (W1 : World), (∀ ty : TypeId, (Builtin.append_ #[29, 3] ty #[.slice none 0 0, .int .i64 (n : Int)]).run Try.prog w = .ok (.slice (some ⟨w.heap.size, 0, none⟩) n C) W1) ∧ Rw W1 5 1 (.slice (some ⟨w.heap.size, 0, none⟩) 0 C) 0 [] ∧ Below w.heap.size w W1 ∧ n ≤ C := by
    refine ⟨_, _, fun ty => hrz ty w, ?_, ?_, grownCap_ge w n 0 5⟩
    · have hg1 := grownCap_ge w n 0 5
      have hg2 := grownCap_le_maxLen w n 0 5 (by unfold maxLen; omega)
      refine ⟨rfl, .inr ⟨w.heap.size, _, _, rfl, Nat.zero_le _, heap_alloc_new w.drew _, Nat.zero_le _, hg2, ?_, rfl⟩⟩
      rw [Array.size_append, zeroCells_size, zeroCells_size]
      show n * 1 + (grownCap w n 0 5 - n) * 1 = grownCap w n 0 5 * 1
      omega
    · have h := new_below w.drew (.cells (Builtin.zeroCells (Value.int .u8 0).cells n ++ Builtin.zeroCells (Value.int .u8 0).cells (grownCap w n 0 5 - n)) 5)
      exact ⟨h.os, h.tape, h.output, h.size, h.block⟩
  have hni : (0 : Int) < (n : Int) := by omega
  have hnn : ¬ (n : Int) < 0 := by omega
  have hni2 : (n : Int) ≤ 1000000000 := by omega
  have hC0 : ¬ C = 0 := by omega
  have HR : Hid (Rw W1 5 1 (.slice (some ⟨w.heap.size, 0, none⟩) 0 C) 0 [] ∧ w.heap.size ≤ w.heap.size ∧ Below w.heap.size w W1) := ⟨RES, Nat.le_refl _, hb1⟩
  clear hi hz0 hz1 hz2 hrz RES hb1 hC1 h0
  go_enter Try.func18, Try.ntmps18
  go_wp2_with (refine wpList_appRg (by rfl) (.tmp 20) (.tmp 21) (by rfl) _ _ _ (by rfl) (by rfl) (hrun _) ?_)
  go_ret
  exact ⟨_, C, rfl, HR.out⟩
/-- The parts of a Concat. -/
structure PtAt (w : World) (v : Value) (ys : List Nat) : Prop where
  ex : ∃ a c, v = .slice a ys.length c ∧ Lies w a ys ∧ (a = none → c = 0)
theorem PtAt.below {w w' : World} {v : Value} {ys : List Nat} (h : PtAt w v ys) (hb : Below w.heap.size w w') : PtAt w' v ys := by
  obtain ⟨a, c, h1, h2, h3⟩ := h.ex
  exact ⟨a, c, h1, h2.below hb, h3⟩
abbrev Pt := Value × List Nat
def zPt : Pt := (.slice none 0 0, [])
def catN (l : List Pt) (k : Nat) : List Nat := ((l.take k).map Prod.snd).flatten
theorem catN_succ (l : List Pt) (k : Nat) (h : k < l.length) : catN l (k + 1) = catN l k ++ (l.getD k zPt).2 := by
  unfold catN
  rw [List.take_succ_eq_append_getElem h, List.map_append, List.flatten_append]
  simp [List.getD, h]
theorem catN_le (l : List Pt) (k : Nat) : (catN l k).length ≤ (catN l l.length).length := by
  have h : catN l l.length = catN l k ++ ((l.drop k).map Prod.snd).flatten := by
    unfold catN
    rw [List.take_length, ← List.flatten_append, ← List.map_append, List.take_append_drop]
  rw [h, List.length_append]
  omega
set_option maxHeartbeats 4000000 in
set_option maxRecDepth 100000 in
theorem concat_as {w : World} {gS : Nat} (l : List Pt) (n : Nat) (hn : n = l.length) (hn1 : n ≤ 100) (o : Own w gS (l.map Prod.fst).toArray 29) (hp : ∀ y ∈ l, PtAt w y.1 y.2) (T : Nat) (hT : T = (catN l l.length).length) (hT0 : 0 < T) (hT1 : T ≤ 10000000) :
    Calls Try.prog 11 #[.slice (some ⟨gS, 0, none⟩) n n] w fun e w' => ∃ a c, e = .returned (.slice a T c) ∧ Rw w' 5 1 (.slice a T c) T (nums (catN l l.length)) ∧ (∀ b, (Value.slice a T c).ownBlock = some b → w.heap.size ≤ b) ∧ Below w.heap.size w w' := by
  have HN : Hid (n = l.length) := hn
  have HT : Hid (T = (catN l l.length).length) := hT
  have HP : Hid (∀ W, Below w.heap.size w W → ∀ k, k < n → PtAt W (l.getD k zPt).1 (l.getD k zPt).2) := fun W q k hk => (hp _ (by simp [List.getD, show k < l.length by omega])).below q
  have HC : Hid (∀ W, Below w.heap.size w W → ∀ k, k < n → W.cell? ⟨gS, k, none⟩ = some (l.getD k zPt).1) := fun W q k hk => by
    rw [(o.below q).cell k]
    simp [List.getD, show k < l.length by omega]
  have HLE : Hid (∀ k, (catN l k).length ≤ T) := fun k => by rw [hT]; exact catN_le l k
  have hni : (n : Int) ≤ 100 := by omega
  have hTi : (T : Int) ≤ 10000000 := by omega
  clear hn hT o hp
  go_enter Try.func11, Try.ntmps11
  go_wp2_with fail
  go_loopw [3, 11] (fun sz i wr => ∃ k : Nat, k ≤ n ∧ i = .int .i64 (k : Int) ∧ sz = .int .i64 ((catN l k).length : Int) ∧ wr = w) (fun _ i _ => n - (intOf i).toNat)
  case atStart => exact ⟨0, Nat.zero_le _, rfl, rfl, rfl⟩
  case round =>
    obtain ⟨k, hk, rfl, rfl, e0⟩ := hrel
    have e0 := e0.symm
    subst e0
    by_cases hlt : k < n
    · obtain ⟨a, c, h1, -, -⟩ := (HP.out w (Below.refl _ _) k hlt).ex
      have d := HC.out w (Below.refl _ _) k hlt
      rw [h1] at d
      have hs := catN_succ l k (by rw [← HN.out]; exact hlt)
      have h5 := HLE.out (k + 1)
      rw [hs, List.length_append] at h5
      have HS : Hid ((catN l (k + 1)).length = (catN l k).length + (l.getD k zPt).2.length) := by rw [Hid, hs, List.length_append]
      clear hs h1
      generalize (l.getD k zPt).2.length = m at *
      generalize (catN l k).length = S at *
      have hki : (k : Int) < (n : Int) := by omega
      have hk0 : (0 : Int) ≤ (k : Int) := by omega
      have hS : (S : Int) + (m : Int) ≤ 10000000 := by omega
      have hSn : ¬ (S : Int) + (m : Int) < 0 := by omega
      clear h5
      go_wp2
      go_roundw
      case rel => exact ⟨k + 1, hlt, by go_num, by rw [HS.out]; go_num, by first | rfl | trivial⟩
      case measure => simp [intOf]; omega
    · obtain rfl : k = n := by omega
      have HTT : Hid (((catN l k).length : Int) = (T : Int)) := by unfold Hid; rw [HN.out, ← HT.out]
      rw [HTT.out]
      go_wp2_with fail
      refine Calls.mono (grow_nil T hT0 (by omega) w) ?_
      rintro e w1 ⟨g, c, rfl, r1, hg1, b1⟩
      have REL : Hid (Rw w1 5 1 (.slice (some ⟨g, 0, none⟩) 0 c) 0 (nums (catN l 0)) ∧ (∀ b, (Value.slice (some ⟨g, 0, none⟩) 0 c).ownBlock = some b → w.heap.size ≤ b) ∧ Below w.heap.size w w1) := ⟨r1, fun b q => by cases q; exact hg1, b1⟩
      clear r1 hg1 b1
      go_wp2_with fail
      go_loopg [6, 27] k (fun gh v i wr => ∃ (j : Nat) (a : Option Addr) (c : Nat), j + gh = k ∧ i = .int .i64 (j : Int) ∧ v = .slice a (catN l j).length c ∧ Rw wr 5 1 (.slice a (catN l j).length c) (catN l j).length (nums (catN l j)) ∧ (∀ b, (Value.slice a (catN l j).length c).ownBlock = some b → w.heap.size ≤ b) ∧ Below w.heap.size w wr)
      case atStart => exact ⟨0, _, c, by omega, rfl, rfl, REL.out⟩
      case round =>
        clear REL
        obtain ⟨j, a, c, hj, rfl, rfl, hr, hnew, hb⟩ := hrel
        cases gk with
        | succ gq =>
          have hjk : j < k := by omega
          obtain ⟨a2, c2, h1, hl2, hno⟩ := (HP.out wr hb j hjk).ex
          have d := HC.out wr hb j hjk
          rw [h1] at d
          have hs := catN_succ l j (by rw [← HN.out]; exact hjk)
          have h5 := HLE.out (j + 1)
          have HG : Hid (∀ (ao' : Option Addr) (n' c' : Nat) (w' : World), n' = (catN l j ++ (l.getD j zPt).2).length → Rw w' 5 1 (.slice ao' n' c') (catN l j ++ (l.getD j zPt).2).length (nums (catN l j ++ (l.getD j zPt).2)) → wr.grownBy w' (Value.slice a (catN l j).length c).ownBlock → ((Value.slice ao' n' c').ownBlock = (Value.slice a (catN l j).length c).ownBlock ∨ (Value.slice ao' n' c').ownBlock = some wr.heap.size) → n' = (catN l (j + 1)).length ∧ Rw w' 5 1 (.slice ao' (catN l (j + 1)).length c') (catN l (j + 1)).length (nums (catN l (j + 1))) ∧ (∀ b, (Value.slice ao' (catN l (j + 1)).length c').ownBlock = some b → w.heap.size ≤ b) ∧ Below w.heap.size w w') := by
            intro ao' n' c' w' q0 q1 q2 q3
            rw [← hs] at q0 q1
            subst q0
            refine ⟨rfl, q1, fun b q => ?_, hb.grown q2 hb.size hnew⟩
            rcases q3 with q3 | q3
            · exact hnew b (by rw [← q3]; exact q)
            · rw [q3] at q; cases q; exact hb.size
          have HSM : Hid ((catN l j).length + (l.getD j zPt).2.length ≤ 100000000000) := by rw [hs, List.length_append] at h5; unfold Hid; omega
          have hji : (j : Int) < (k : Int) := by omega
          have hj0 : (0 : Int) ≤ (j : Int) := by omega
          clear hs h5 h1 hnew hb
          go_wp2_with (refine wpList_appL (by rfl) (.tmp 31) (.tmp 32) (by rfl) _ (catN l j) (by rfl) hr a2 _ c2 (l.getD j zPt).2 (by rfl) hl2 rfl hno HSM.out ?_; intro ao' n' c' w' g0 g1 g2 g3; obtain ⟨ea, k1, k2, k3⟩ := HG.out ao' n' c' w' g0 g1 g2 g3; clear g0 g1 g2 g3 HG hr; subst ea)
          go_roundg gq
          case measure => omega
          case rel => exact ⟨j + 1, _, _, by omega, by go_num, rfl, k1, k2, k3⟩
        | zero =>
          obtain rfl : j = k := by omega
          have HR : Hid (Rw wr 5 1 (.slice a T c) T (nums (catN l l.length)) ∧ (∀ b, (Value.slice a T c).ownBlock = some b → w.heap.size ≤ b) ∧ Below w.heap.size w wr) := by
            have e1 : (catN l j).length = T := by rw [HN.out]; exact HT.out.symm
            rw [e1] at hr hnew
            rw [HN.out] at hr
            exact ⟨hr, hnew, hb⟩
          have e1 : (catN l j).length = T := by rw [HN.out]; exact HT.out.symm
          clear hr hnew hb
          rw [e1]
          clear e1
          go_wp2
          go_ret
          exact ⟨a, c, rfl, HR.out⟩
end Go.Proofs.Ytibcakmodkbliaa
namespace Go.Proofs.Ytibcakmodkbliaa
open Go.RowKit Go.Lib
set_option linter.unusedVariables false

theorem sum000 : Q01.sumN [0, 0, 0] = 4282505490 := by decide
theorem fix3 : fixN 3 4 = [3, 0, 0, 0] := by decide
theorem fixS : fixN 4282505490 4 = [18, 217, 65, 255] := by decide
def eBytes : List Nat := [84, 82, 77, 1, 3, 0, 0, 0, 0, 0, 0, 18, 217, 65, 255]
theorem own_lies {w : World} {B g n cap : Nat} {xs : List Nat} (hn : n = xs.length) (h : w.ownsRow B 5 1 (.slice (some ⟨g, 0, none⟩) n cap) n (nums xs)) (hb : ∀ c ∈ xs, c < 256) (hm : xs.length ≤ 100) : Lies w (some ⟨g, 0, none⟩) xs := lies_row hn h hb (by omega)
theorem fixed_lit (x : Int) (n : Nat) (hx : x = (n : Int)) (l : List Nat) (hl : fixN n 4 = l) (w : World) (h : n < 18446744073709551616) :
    Calls Try.prog 9 #[.int .u64 x, .int .i64 4] w fun e w' => ∃ g, e = .returned (.slice (some ⟨g, 0, none⟩) 4 4) ∧ w'.ownsRow w.heap.size 5 1 (.slice (some ⟨g, 0, none⟩) 4 4) 4 (nums l) ∧ Below w.heap.size w w' := by
  subst hx
  subst hl
  exact fixed_any n 4 w h (by omega) (by omega)
theorem sum_lit (b c : Nat) (w : World) (x : Int) (hx : x = ((Q01.sumN [0, 0, 0] : Nat) : Int)) (hc : ∀ i, i < ([0, 0, 0] : List Nat).length → w.cell? ⟨b, 0 + i, none⟩ = some (.int .u8 ((([0, 0, 0] : List Nat).getD i 0 : Nat) : Int))) :
    Calls Try.prog 10 #[.slice (some ⟨b, 0, none⟩) 3 c] w fun e w' => e = .returned (.int .u32 x) ∧ w = w' := by
  subst hx
  exact Q01.sum_row b 0 3 c [0, 0, 0] w rfl (by simp) (by omega) hc
theorem litS : (4282505490 : Int) = ((Q01.sumN [0, 0, 0] : Nat) : Int) := by rw [sum000]; rfl
theorem row0 {w : World} {B : Nat} {e : TypeId} {sz n : Nat} {v : Value} {xs : List Value} (h : w.ownsRow B e sz v n xs) : Rw w e sz v n xs := by
  rcases h with ⟨h1, h2 | ⟨g, cap, cur, h2, -, h3⟩⟩
  · exact ⟨h1, .inl h2⟩
  · exact ⟨h1, .inr ⟨g, cap, cur, h2, Nat.zero_le _, h3⟩⟩
theorem marked_lies (w : World) : Lies (w.alloc (.cells #[.int .u8 84, .int .u8 82, .int .u8 77, .int .u8 1] 5 (4, 5))) (some ⟨w.heap.size, 0, none⟩) [84, 82, 77, 1] := by
  refine ⟨by simp, by simp, .inr ⟨w.heap.size, 0, rfl, fun i hi => ?_⟩⟩
  rw [Nat.zero_add, cell_of_row _ w.heap.size i _ _ _ (heap_alloc_new w _)]
  have : i = 0 ∨ i = 1 ∨ i = 2 ∨ i = 3 := by simp at hi; omega
  rcases this with rfl | rfl | rfl | rfl <;> rfl
set_option maxHeartbeats 2000000 in
set_option maxRecDepth 100000 in
theorem encode_empty (w : World) : Calls Try.prog 6 #[.agg zMo] w fun e w' => ∃ a c, e = .returned (.tuple #[.slice a 15 c, .int .i64 0]) ∧ Rw w' 5 1 (.slice a 15 c) 15 (nums eBytes) ∧ Below w.heap.size w w' := by
  have o1 := Own.new w zMo 26
  have hb := new_below w (.cells zMo 26)
  have kc : ∀ w : World, (convert 29 29 (.slice (some ⟨w.heap.size, 0, none⟩) 4 4)).run Try.prog (w.alloc (.cells #[.int .u8 84, .int .u8 82, .int .u8 77, .int .u8 1] 5)) = .ok (.slice (some ⟨w.heap.size, 0, none⟩) 4 4) (w.alloc (.cells #[.int .u8 84, .int .u8 82, .int .u8 77, .int .u8 1] 5 (4, 5))) := fun w => run_convert_bytes_const (P := Try.prog) w 29 5 _ 4 4 Try.underlying29 Try.underlying5
  go_enter Try.func6, Try.ntmps6
  go_upto_region 1 with fail
  generalize w.alloc (.cells zMo 26) = w1 at *
  obtain ⟨x0, x1, x2, xf⟩ := own3 o1
  go_wp2_with fail
  refine Calls.mono (body_empty w1) ?_
  rintro e w2 ⟨a, c, rfl, r2, n2, b2⟩
  replace hb := hb.trans (b2.mono hb.size)
  clear x0 x1 x2 xf b2 o1
  obtain ⟨gb, cap, cur, ea, -⟩ := r2.block (by omega)
  cases ea
  have hF1 := fixed_lit 3 3 rfl [3, 0, 0, 0] fix3 w2 (by omega)
  go_wp2_with fail
  refine Calls.mono hF1 ?_
  rintro e w3 ⟨g3, rfl, r3, b3⟩
  clear hF1
  replace hb := hb.trans (b3.mono hb.size)
  have r2b := r2.belowR b3
  have hcl : ∀ i, i < ([0, 0, 0] : List Nat).length → w3.cell? ⟨gb, 0 + i, none⟩ = some (.int .u8 ((([0, 0, 0] : List Nat).getD i 0 : Nat) : Int)) := by
    intro i hi
    rw [Nat.zero_add]
    have h3 : i = 0 ∨ i = 1 ∨ i = 2 := by simp at hi; omega
    rcases h3 with rfl | rfl | rfl <;> exact Rw.cells r2b _ _ rfl
  have hS := sum_lit gb c w3 4282505490 litS hcl
  clear hcl
  go_wp2_with fail
  refine Calls.mono hS ?_
  rintro e w4 ⟨rfl, rfl⟩
  clear hS
  have hF2 := fixed_lit 4282505490 4282505490 (by simp) [18, 217, 65, 255] fixS w3 (by omega)
  go_wp2_with fail
  refine Calls.mono hF2 ?_
  rintro e w5 ⟨g5, rfl, r5, b5⟩
  clear hF2
  replace hb := hb.trans (b5.mono hb.size)
  have l3 : Lies w5 (some ⟨g3, 0, none⟩) [3, 0, 0, 0] := (own_lies rfl r3 (by simp) (by simp)).below b5
  have l5 : Lies w5 (some ⟨g5, 0, none⟩) [18, 217, 65, 255] := own_lies rfl r5 (by simp) (by simp)
  have l2 : Lies w5 (some ⟨gb, 0, none⟩) [0, 0, 0] := (own_lies rfl r2b (by simp) (by simp)).below b5
  have B6 := new_below w5 (.cells #[.int .u8 84, .int .u8 82, .int .u8 77, .int .u8 1] 5 (4, 5))
  have B7 := B6.alloc B6.size (.cells #[.slice (some ⟨w5.heap.size, 0, none⟩) 4 4, .slice (some ⟨g3, 0, none⟩) 4 4, .slice (some ⟨gb, 0, none⟩) 3 c, .slice (some ⟨g5, 0, none⟩) 4 4] 29)
  have lm := (marked_lies w5).below (new_below _ (.cells #[.slice (some ⟨w5.heap.size, 0, none⟩) 4 4, .slice (some ⟨g3, 0, none⟩) 4 4, .slice (some ⟨gb, 0, none⟩) 3 c, .slice (some ⟨g5, 0, none⟩) 4 4] 29))
  have oS := Own.new (w5.alloc (.cells #[.int .u8 84, .int .u8 82, .int .u8 77, .int .u8 1] 5 (4, 5))) #[.slice (some ⟨w5.heap.size, 0, none⟩) 4 4, .slice (some ⟨g3, 0, none⟩) 4 4, .slice (some ⟨gb, 0, none⟩) 3 c, .slice (some ⟨g5, 0, none⟩) 4 4] 29
  rw [World.size_alloc] at oS
  have hCat := concat_as (w := (w5.alloc (.cells #[.int .u8 84, .int .u8 82, .int .u8 77, .int .u8 1] 5 (4, 5))).alloc (.cells #[.slice (some ⟨w5.heap.size, 0, none⟩) 4 4, .slice (some ⟨g3, 0, none⟩) 4 4, .slice (some ⟨gb, 0, none⟩) 3 c, .slice (some ⟨g5, 0, none⟩) 4 4] 29)) [(.slice (some ⟨w5.heap.size, 0, none⟩) 4 4, [84, 82, 77, 1]), (.slice (some ⟨g3, 0, none⟩) 4 4, [3, 0, 0, 0]), (.slice (some ⟨gb, 0, none⟩) 3 c, [0, 0, 0]), (.slice (some ⟨g5, 0, none⟩) 4 4, [18, 217, 65, 255])] 4 rfl (by omega) oS (by
    intro y hy
    simp at hy
    rcases hy with rfl | rfl | rfl | rfl
    · exact ⟨_, _, rfl, lm, fun e => by cases e⟩
    · exact ⟨_, _, rfl, l3.below B7, fun e => by cases e⟩
    · exact ⟨_, _, rfl, l2.below B7, fun e => by cases e⟩
    · exact ⟨_, _, rfl, l5.below B7, fun e => by cases e⟩) 15 rfl (by omega) (by omega)
  replace hb := hb.trans (B7.mono hb.size)
  clear l2 l3 l5 lm r2 r2b r3 r5 n2 b3 b5 B6
  go_wp2_with fail
  refine Calls.mono hCat ?_
  rintro e w8 ⟨aR, cR, rfl, rR, -, bR⟩
  have HR : Hid (Rw w8 5 1 (.slice aR 15 cR) 15 (nums eBytes) ∧ Below w.heap.size w w8) := ⟨rR, hb.trans (bR.mono hb.size)⟩
  clear hCat rR bR hb B7 oS
  go_wp2
  go_ret2
  exact ⟨aR, cR, rfl, HR.out⟩
theorem strE : strN eBytes = ⟨#[84, 82, 77, 1, 3, 0, 0, 0, 0, 0, 0, 18, 217, 65, 255]⟩ := by decide
set_option maxHeartbeats 2000000 in
set_option maxRecDepth 100000 in
theorem iworks_any (w : World) : Calls Try.prog 5 #[] w fun e w' => e = .returned (.bool true) ∧ Below w.heap.size w w' := by
  go_enter Try.func5, Try.ntmps5
  go_wp2_with fail
  refine Calls.mono (encode_empty w) ?_
  rintro e w1 ⟨a, c, rfl, r1, b1⟩
  have hc : (convert 29 9 (.slice a 15 c)).run Try.prog w1 = .ok (.string ⟨#[84, 82, 77, 1, 3, 0, 0, 0, 0, 0, 0, 18, 217, 65, 255]⟩) w1 := by
    obtain ⟨a', c', e, hl⟩ := row_lies (xs := eBytes) r1 (by decide) (by decide)
    cases e
    rw [← strE]
    exact conv_any hl rfl
  clear r1
  go_wp2
  go_ret
  exact ⟨rfl, b1⟩
end Go.Proofs.Ytibcakmodkbliaa
namespace Go.Proofs.Ytibcakmodkbliaa
open Go.RowKit Go.Lib
set_option linter.unusedVariables false

/-- What Check tells. -/
def chkE (m : MoP) : Nat := if partsE m ≠ 0 then partsE m else if room < (moB m.mo).length then 3 else 0
theorem liB_byte {α : Type} {u : α → List Nat} {l : List α} (h : ∀ a ∈ l, ∀ c ∈ u a, c < 256) : ∀ c ∈ liB u l, c < 256 := by
  intro c hc
  unfold liB at hc
  rcases List.mem_append.1 hc with hc | hc
  · exact Q01.putN_byte _ c hc
  · obtain ⟨v, hv, hc⟩ := List.mem_flatten.1 hc
    obtain ⟨a, ha, rfl⟩ := List.mem_map.1 hv
    exact h a ha c hc
theorem txB_byte (s : ByteArray) : ∀ c ∈ txB s, c < 256 := by
  intro c hc
  rcases List.mem_append.1 hc with hc | hc
  · exact Q01.putN_byte _ c hc
  · exact byS_byte s c hc
theorem nuB_byte (n : Int) : ∀ c ∈ nuB n, c < 256 := Q01.putN_byte _
theorem tyB_byte (t : Ty) (hk : t.kind < 256) : ∀ c ∈ tyB t, c < 256 := by
  intro c hc
  unfold tyB at hc
  rcases List.mem_cons.1 hc with rfl | hc
  · exact hk
  · split at hc
    · rcases List.mem_append.1 hc with hc | hc
      · exact txB_byte _ c hc
      · refine liB_byte (fun a _ c hc => ?_) c hc
        rcases List.mem_append.1 hc with hc | hc
        · exact txB_byte _ c hc
        · exact nuB_byte _ c hc
    · split at hc
      · rcases List.mem_append.1 hc with hc | hc
        · exact nuB_byte _ c hc
        · exact nuB_byte _ c hc
      · split at hc
        · exact nuB_byte _ c hc
        · cases hc
theorem roB_byte (r : Ro) (hk : ∀ c ∈ r.code, c < 256) : ∀ c ∈ roB r, c < 256 := by
  intro c hc
  unfold roB at hc
  rcases List.mem_append.1 hc with hc | hc
  · exact txB_byte _ c hc
  rcases List.mem_append.1 hc with hc | hc
  · exact liB_byte (fun a _ => nuB_byte a) c hc
  rcases List.mem_append.1 hc with hc | hc
  · exact liB_byte (fun a _ => nuB_byte a) c hc
  rcases List.mem_append.1 hc with hc | hc
  · exact nuB_byte _ c hc
  rcases List.mem_append.1 hc with hc | hc
  · exact nuB_byte _ c hc
  rcases List.mem_append.1 hc with hc | hc
  · exact Q01.putN_byte _ c hc
  · exact hk c hc
theorem moB_byte {w : World} {m : MoP} (h : MoIn w m) : ∀ c ∈ moB m.mo, c < 256 := by
  intro c hc
  unfold moB at hc
  rcases List.mem_append.1 hc with hc | hc
  · refine liB_byte (fun t ht => ?_) c hc
    obtain ⟨x, hx, rfl⟩ := List.mem_map.1 ht
    exact tyB_byte _ (h.ty x hx).kind
  rcases List.mem_append.1 hc with hc | hc
  · exact liB_byte (fun s _ => txB_byte s) c hc
  · refine liB_byte (fun r hr => ?_) c hc
    obtain ⟨x, hx, rfl⟩ := List.mem_map.1 hr
    exact roB_byte _ (h.fn x hx).code.1
theorem moB_pos (m : Mo) : 0 < (moB m).length := by
  unfold moB liB
  simp only [List.length_append]
  have := Q01.plen_pos m.types.length
  omega
def BodyRet (w : World) (m : MoP) (e : Ending) (w' : World) : Prop := (∃ a L c, e = .returned (.tuple #[.slice a L c, .int .i64 (chkE m : Nat)]) ∧ (chkE m = 0 → L = (moB m.mo).length ∧ Rw w' 5 1 (.slice a L c) L (nums (moB m.mo))) ∧ (chkE m ≠ 0 → Value.slice a L c = .slice none 0 0)) ∧ Below w.heap.size w w'
set_option maxHeartbeats 2000000 in
set_option maxRecDepth 100000 in
theorem bodyOf_as {w : World} {m : MoP} (hm : MoIn w m) (hs : Small m 100000) : Calls Try.prog 8 #[.agg m.cs] w (BodyRet w m) := by
  have HPT : Hid (∀ W, Below w.heap.size w W → Calls Try.prog 14 #[.agg m.cs] W fun e w' => e = .returned (.int .i64 (partsE m : Nat)) ∧ Below W.heap.size W w') := fun W hb => parts_as (hm.below hb) hs
  have HMD : Hid (∀ W p, Below w.heap.size w W → w.heap.size ≤ p → IwIs W p w.heap.size [] → partsE m = 0 → Calls Try.prog 15 #[ptr p, .agg m.cs] W (IwRt p w.heap.size (moB m.mo) W)) := fun W p hb hp hi h0 => module_is ⟨hb.size, fun k hk => hb.block k hk⟩ hp hi hm hs (fit_of h0)
  have o1 := Own.new w m.cs 26
  have hb := new_below w (.cells m.cs 26)
  obtain ⟨R, HR⟩ : ∃ R, Hid (BodyRet w m = R) := ⟨_, rfl⟩
  rw [HR.out]
  unfold MoP.cs at *
  clear hm hs
  generalize m.tys.length = n1 at *
  generalize m.txs.length = n2 at *
  generalize m.fns.length = n3 at *
  go_enter Try.func8, Try.ntmps8
  go_upto_region 1 with fail
  generalize w.alloc (.cells #[.slice m.ta n1 m.tc, .slice m.sa n2 m.sc, .slice m.fa n3 m.fc] 26) = w1 at *
  have hC := HPT.out w1 hb
  obtain ⟨x0, x1, x2, xf⟩ := own3 o1
  obtain ⟨E, HE⟩ : ∃ E, Hid (partsE m = E) := ⟨_, rfl⟩
  rw [HE.out] at hC HMD
  go_wp2_with fail
  refine Calls.mono hC ?_
  rintro e w2 ⟨rfl, b2⟩
  replace o1 := o1.below b2
  replace hb := hb.trans (b2.mono hb.size)
  clear x0 x1 x2 xf b2 hC HPT
  by_cases h0 : E = 0
  · subst h0
    have oW := Own.new w2 #[.slice none 0 0, .bool false] 51
    have o3 := o1.alloc (.cells #[.slice none 0 0, .bool false] 51)
    have hs2 := hb.size
    have hb3 := hb.alloc hb.size (.cells #[.slice none 0 0, .bool false] 51)
    have hA : IwIs (w2.alloc (.cells #[.slice none 0 0, .bool false] 51)) w2.heap.size w.heap.size [] := ⟨([], false), ⟨by simp, none, 0, oW, World.ownsRow_nil _ _ _ _, by simp [Value.ownBlock]⟩, by unfold room; simp, fun _ => rfl⟩
    go_upto_region 5 with fail
    have hgp : ¬ w.heap.size = w2.heap.size := by have := o1.lt; omega
    generalize w2.alloc (.cells #[.slice none 0 0, .bool false] 51) = w3 at *
    obtain ⟨p, hp⟩ : ∃ p, w2.heap.size = p := ⟨_, rfl⟩
    rw [hp] at oW hA hgp hs2
    rw [hp]
    have hC := HMD.out w3 p hb3 hs2 hA (by trivial)
    clear hp HMD o1 oW
    obtain ⟨x0, x1, x2, xf⟩ := own3 o3
    go_wp2_with fail
    refine Calls.mono hC ?_
    rintro e w4 ⟨rfl, ⟨⟨xs, ov⟩, ⟨h40, a, c, o4, r4, n4⟩, his1, his2⟩, f4⟩
    simp only at h40 o4 r4 n4 his1 his2
    have hb4 := below_fr hb3 f4.fr (fun g q => by rcases q with rfl | q <;> omega)
    have HI : Hid (ov = decide (room < (moB m.mo).length) ∧ (ov = false → xs = moB m.mo)) := ⟨his1, his2⟩
    clear x0 x1 x2 xf f4 h40 hC hA hb3 hb his1 his2 o3
    obtain ⟨y0, y1, yf⟩ := own2 o4
    cases ov with
    | true =>
      have hc : chkE m = 3 := by unfold chkE; rw [if_neg (by simp [HE.out]), if_pos (of_decide_eq_true HI.out.1.symm)]
      clear HI
      go_wp2
      rw [← HR.out]
      refine ⟨⟨none, 0, 0, by rw [hc]; rfl, fun q => by omega, fun _ => rfl⟩, hb4⟩
    | false =>
      have hc : chkE m = 0 := by unfold chkE; rw [if_neg (by simp [HE.out]), if_neg (of_decide_eq_false HI.out.1.symm)]
      obtain rfl := HI.out.2 rfl
      clear HI
      go_wp2
      rw [← HR.out]
      exact ⟨⟨a, _, c, by rw [hc]; rfl, fun _ => ⟨rfl, r4⟩, fun q => absurd hc q⟩, hb4⟩
  · have hd : ((E : Int) == 0) = false := by simp; omega
    have hc : chkE m = E := by unfold chkE; rw [HE.out, if_pos h0]
    clear HMD o1
    go_wp2
    rw [← HR.out]
    exact ⟨⟨none, 0, 0, by rw [hc]; rfl, fun q => by omega, fun _ => rfl⟩, hb⟩
/-- A module's bytes. -/
def imgB (body : List Nat) : List Nat := [84, 82, 77, 1] ++ (fixN body.length 4 ++ (body ++ fixN (Q01.sumN body) 4))
theorem imgB_length (body : List Nat) : (imgB body).length = body.length + 12 := by unfold imgB; simp [fixN_length]; omega
theorem sumN_lt (l : List Nat) : Q01.sumN l < 4294967296 := by unfold Q01.sumN; omega
def EncR (w : World) (m : MoP) (e : Ending) (w' : World) : Prop := (∃ a L c, e = .returned (.tuple #[.slice a L c, .int .i64 (chkE m : Nat)]) ∧ (chkE m = 0 → L = (imgB (moB m.mo)).length ∧ Rw w' 5 1 (.slice a L c) L (nums (imgB (moB m.mo))) ∧ ∀ b, (Value.slice a L c).ownBlock = some b → w.heap.size ≤ b) ∧ (chkE m ≠ 0 → Value.slice a L c = .slice none 0 0)) ∧ Below w.heap.size w w'
set_option maxHeartbeats 2000000 in
set_option maxRecDepth 100000 in
theorem encode_as {w : World} {m : MoP} (hm : MoIn w m) (hs : Small m 100000) : Calls Try.prog 6 #[.agg m.cs] w (EncR w m) := by
  have HBD : Hid (∀ W, Below w.heap.size w W → Calls Try.prog 8 #[.agg m.cs] W (BodyRet W m)) := fun W hb => bodyOf_as (hm.below hb) hs
  have HBY : Hid (∀ c ∈ moB m.mo, c < 256) := moB_byte hm
  have HPS : Hid (0 < (moB m.mo).length) := moB_pos _
  have o1 := Own.new w m.cs 26
  have hb := new_below w (.cells m.cs 26)
  have HLE : Hid (chkE m = 0 → (moB m.mo).length ≤ 2097140) := by
    intro h
    unfold chkE at h
    by_cases h1 : partsE m = 0
    · rw [if_neg (by simp [h1])] at h
      split at h
      · cases h
      · rename_i h2; unfold room at h2; omega
    · rw [if_pos h1] at h; exact absurd h h1
  obtain ⟨R, HR⟩ : ∃ R, Hid (EncR w m = R) := ⟨_, rfl⟩
  rw [HR.out]
  have kc : ∀ w : World, (convert 29 29 (.slice (some ⟨w.heap.size, 0, none⟩) 4 4)).run Try.prog (w.alloc (.cells #[.int .u8 84, .int .u8 82, .int .u8 77, .int .u8 1] 5)) = .ok (.slice (some ⟨w.heap.size, 0, none⟩) 4 4) (w.alloc (.cells #[.int .u8 84, .int .u8 82, .int .u8 77, .int .u8 1] 5 (4, 5))) := fun w => run_convert_bytes_const (P := Try.prog) w 29 5 _ 4 4 Try.underlying29 Try.underlying5
  unfold MoP.cs at *
  clear hm hs
  generalize m.tys.length = n1 at *
  generalize m.txs.length = n2 at *
  generalize m.fns.length = n3 at *
  go_enter Try.func6, Try.ntmps6
  go_upto_region 1 with fail
  generalize w.alloc (.cells #[.slice m.ta n1 m.tc, .slice m.sa n2 m.sc, .slice m.fa n3 m.fc] 26) = w1 at *
  have hC := HBD.out w1 hb
  obtain ⟨x0, x1, x2, xf⟩ := own3 o1
  go_wp2_with fail
  refine Calls.mono hC ?_
  rintro e w2 ⟨⟨a, L, c, rfl, q1, q2⟩, b2⟩
  replace hb := hb.trans (b2.mono hb.size)
  clear x0 x1 x2 xf b2 o1 hC HBD
  by_cases h0 : chkE m = 0
  · obtain ⟨hL, r2⟩ := q1 h0
    have hle := HLE.out h0
    have HCE : Hid (chkE m = 0) := h0
    rw [h0]
    clear q1 q2 h0 HLE
    obtain ⟨body, hbody⟩ : ∃ body, moB m.mo = body := ⟨_, rfl⟩
    have HBO : Hid (moB m.mo = body) := hbody
    rw [hbody] at hL r2 hle HBY HPS
    clear hbody
    subst hL
    obtain ⟨gb, cap, cur, ea, -⟩ := r2.block HPS.out
    cases ea
    have hcv : IntKind.u64.wrap ((body.length : Nat) : Int) = (body.length : Int) := by rw [IntKind.wrap_u64]; omega
    have hcs : IntKind.u64.wrap ((Q01.sumN body : Nat) : Int) = (Q01.sumN body : Int) := by have := sumN_lt body; rw [IntKind.wrap_u64]; omega
    have hF1 := fixed_lit (body.length : Int) body.length rfl (fixN body.length 4) rfl w2 (by omega)
    have HLn : Hid (body.length ≤ 2097140) := hle
    clear hle
    go_wp2_with fail
    refine Calls.mono hF1 ?_
    rintro e w3 ⟨g3, rfl, r3, b3⟩
    clear hF1
    replace hb := hb.trans (b3.mono hb.size)
    have r2b := r2.belowR b3
    have hS := Q01.sum_row gb 0 body.length c body w3 rfl HBY.out (by have := HLn.out; omega) (fun i hi => by rw [Nat.zero_add]; exact Rw.cells r2b _ _ (nums_get body i hi))
    go_wp2_with fail
    refine Calls.mono hS ?_
    rintro e w4 ⟨rfl, rfl⟩
    clear hS
    have hF2 := fixed_lit (Q01.sumN body : Int) (Q01.sumN body) rfl (fixN (Q01.sumN body) 4) rfl w3 (by have := sumN_lt body; omega)
    go_wp2_with fail
    refine Calls.mono hF2 ?_
    rintro e w5 ⟨g5, rfl, r5, b5⟩
    clear hF2
    replace hb := hb.trans (b5.mono hb.size)
    have l3 : Lies w5 (some ⟨g3, 0, none⟩) (fixN body.length 4) := (lies_row (fixN_length _ _).symm r3 (fixN_byte _ _) (by rw [fixN_length]; omega)).below b5
    have l5 : Lies w5 (some ⟨g5, 0, none⟩) (fixN (Q01.sumN body) 4) := lies_row (fixN_length _ _).symm r5 (fixN_byte _ _) (by rw [fixN_length]; omega)
    have l2 : Lies w5 (some ⟨gb, 0, none⟩) body := (lies_row rfl r2b HBY.out (by have := HLn.out; omega)).below b5
    have B6 := new_below w5 (.cells #[.int .u8 84, .int .u8 82, .int .u8 77, .int .u8 1] 5 (4, 5))
    have B7 := B6.alloc B6.size (.cells #[.slice (some ⟨w5.heap.size, 0, none⟩) 4 4, .slice (some ⟨g3, 0, none⟩) 4 4, .slice (some ⟨gb, 0, none⟩) body.length c, .slice (some ⟨g5, 0, none⟩) 4 4] 29)
    have lm := (marked_lies w5).below (new_below _ (.cells #[.slice (some ⟨w5.heap.size, 0, none⟩) 4 4, .slice (some ⟨g3, 0, none⟩) 4 4, .slice (some ⟨gb, 0, none⟩) body.length c, .slice (some ⟨g5, 0, none⟩) 4 4] 29))
    have oS := Own.new (w5.alloc (.cells #[.int .u8 84, .int .u8 82, .int .u8 77, .int .u8 1] 5 (4, 5))) #[.slice (some ⟨w5.heap.size, 0, none⟩) 4 4, .slice (some ⟨g3, 0, none⟩) 4 4, .slice (some ⟨gb, 0, none⟩) body.length c, .slice (some ⟨g5, 0, none⟩) 4 4] 29
    rw [World.size_alloc] at oS
    have hCat := concat_as (w := (w5.alloc (.cells #[.int .u8 84, .int .u8 82, .int .u8 77, .int .u8 1] 5 (4, 5))).alloc (.cells #[.slice (some ⟨w5.heap.size, 0, none⟩) 4 4, .slice (some ⟨g3, 0, none⟩) 4 4, .slice (some ⟨gb, 0, none⟩) body.length c, .slice (some ⟨g5, 0, none⟩) 4 4] 29)) [(.slice (some ⟨w5.heap.size, 0, none⟩) 4 4, [84, 82, 77, 1]), (.slice (some ⟨g3, 0, none⟩) 4 4, fixN body.length 4), (.slice (some ⟨gb, 0, none⟩) body.length c, body), (.slice (some ⟨g5, 0, none⟩) 4 4, fixN (Q01.sumN body) 4)] 4 rfl (by omega) oS (by
      intro y hy
      simp at hy
      rcases hy with rfl | rfl | rfl | rfl
      · exact ⟨_, _, rfl, lm, fun e => by cases e⟩
      · exact ⟨_, _, by rw [show (fixN body.length 4).length = 4 from fixN_length _ _], l3.below B7, fun e => by cases e⟩
      · exact ⟨_, _, rfl, l2.below B7, fun e => by cases e⟩
      · exact ⟨_, _, by rw [show (fixN (Q01.sumN body) 4).length = 4 from fixN_length _ _], l5.below B7, fun e => by cases e⟩) (body.length + 12) (by simp [catN, fixN_length]; omega) (by omega) (by have := HLn.out; omega)
    have hcat : catN [(.slice (some ⟨w5.heap.size, 0, none⟩) 4 4, [84, 82, 77, 1]), (.slice (some ⟨g3, 0, none⟩) 4 4, fixN body.length 4), (.slice (some ⟨gb, 0, none⟩) body.length c, body), (.slice (some ⟨g5, 0, none⟩) 4 4, fixN (Q01.sumN body) 4)] ([(.slice (some ⟨w5.heap.size, 0, none⟩) 4 4, [84, 82, 77, 1]), (.slice (some ⟨g3, 0, none⟩) 4 4, fixN body.length 4), (.slice (some ⟨gb, 0, none⟩) body.length c, body), (.slice (some ⟨g5, 0, none⟩) 4 4, fixN (Q01.sumN body) 4)] : List Pt).length = imgB body := by
      unfold catN imgB; simp
    rw [hcat] at hCat
    have HS5 : Hid (w.heap.size ≤ w5.heap.size) := hb.size
    replace hb := hb.trans (B7.mono hb.size)
    clear l2 l3 l5 lm r2 r2b r3 r5 b3 b5 B6 hcat
    go_wp2_with fail
    refine Calls.mono hCat ?_
    rintro e w8 ⟨aR, cR, rfl, rR, nR, bR⟩
    have HRR : Hid (EncR w m (.returned (.tuple #[.slice aR (body.length + 12) cR, .int .i64 0])) w8) := by
      refine ⟨⟨aR, body.length + 12, cR, by rw [HCE.out]; rfl, fun _ => ⟨by rw [HBO.out, imgB_length], by rw [HBO.out]; exact rR, fun b q => Nat.le_trans HS5.out (Nat.le_trans B7.size (nR b q))⟩, fun q => absurd HCE.out q⟩, hb.trans (bR.mono hb.size)⟩
    clear hCat rR bR hb B7 oS nR
    go_wp2
    rw [← HR.out]
    exact HRR.out
  · have hd : (((chkE m : Nat) : Int) == 0) = false := by simp; omega
    have HQ : Hid (chkE m ≠ 0) := h0
    have hz := q2 h0
    clear q1 q2 HLE h0
    cases hz
    go_wp2
    rw [← HR.out]
    exact ⟨⟨none, 0, 0, rfl, fun q => absurd q HQ.out, fun _ => rfl⟩, hb⟩
end Go.Proofs.Ytibcakmodkbliaa
namespace Go.Proofs.Ytibcakmodkbliaa
open Go.RowKit
set_option linter.unusedVariables false

theorem imgB_inj {a b : List Nat} (h : imgB a = imgB b) : a = b := by
  have hl := congrArg List.length h
  rw [imgB_length, imgB_length] at hl
  have e : a.length = b.length := by omega
  unfold imgB at h
  have h1 := (List.append_inj h rfl).2
  have h2 := (List.append_inj h1 (by rw [fixN_length, fixN_length])).2
  exact (List.append_inj h2 e).1
theorem imgB_byte {a : List Nat} (h : ∀ c ∈ a, c < 256) : ∀ c ∈ imgB a, c < 256 := by
  intro c hc
  unfold imgB at hc
  rcases List.mem_append.1 hc with hc | hc
  · simp at hc; omega
  rcases List.mem_append.1 hc with hc | hc
  · exact fixN_byte _ _ c hc
  rcases List.mem_append.1 hc with hc | hc
  · exact h c hc
  · exact fixN_byte _ _ c hc
theorem parts_of {m : MoP} (h : chkE m = 0) : partsE m = 0 := by
  unfold chkE at h
  split at h
  · exact h
  · rename_i h1; omega
theorem img_le {m : MoP} (h : chkE m = 0) : (imgB (moB m.mo)).length ≤ 2097152 := by
  rw [imgB_length]
  unfold chkE at h
  split at h
  · rename_i h1; exact absurd h h1
  · split at h
    · cases h
    · rename_i h2; unfold room at h2; omega
theorem strN_iff {a b : List Nat} (ha : ∀ c ∈ a, c < 256) (hb : ∀ c ∈ b, c < 256) : ((strN a).toList == (strN b).toList) = true ↔ a = b := by
  rw [ba_eq, decide_eq_true_eq]
  constructor
  · intro h
    rw [← byS_strN a ha, ← byS_strN b hb, h]
  · intro h; rw [h]
theorem own3c {w : World} {g : Nat} {a0 a1 a2 : Value} {t : TypeId} (h : Own w g #[a0, a1, a2] t) : (∀ t : After w, t.1.cell? ⟨g, 0, none⟩ = some a0) ∧ (∀ t : After w, t.1.cell? ⟨g, 1, none⟩ = some a1) ∧ (∀ t : After w, t.1.cell? ⟨g, 2, none⟩ = some a2) :=
  ⟨fun t => (h.below t.2).cell 0, fun t => (h.below t.2).cell 1, fun t => (h.below t.2).cell 2⟩
set_option maxHeartbeats 8000000 in
set_option maxRecDepth 100000 in
theorem unlike_walk (W : World) (A B : MoP) (hA : MoIn W A) (hB : MoIn W B) :
    Calls Try.prog 3 #[.agg A.cs, .agg B.cs] W fun e w' => e = .returned (.bool true) ∧ Below W.heap.size W w' := by
  have o1 := (Own.new W A.cs 26).alloc (.cells B.cs 26)
  have o2 := Own.new (W.alloc (.cells A.cs 26)) B.cs 26
  rw [World.size_alloc] at o2
  have hb0 : Below W.heap.size W ((W.alloc (.cells A.cs 26)).alloc (.cells B.cs 26)) := (new_below _ _).alloc (by simp) _
  have HBK : Hid (∀ w, Below W.heap.size W w → Calls Try.prog 4 #[.agg A.cs, .int .i64 100000] w (BulkRet A.mo 100000 w)) := fun w q => kBulk_as (hA.below q) 100000 (by omega) (by omega)
  have HBL : Hid (∀ w, Below W.heap.size W w → Calls Try.prog 4 #[.agg B.cs, .int .i64 100000] w (BulkRet B.mo 100000 w)) := fun w q => kBulk_as (hB.below q) 100000 (by omega) (by omega)
  have HEA : Hid ((A.mo.bulk : Int) ≤ 100000 → ∀ w, Below W.heap.size W w → Calls Try.prog 6 #[.agg A.cs] w (EncR w A)) := fun k w q => encode_as (hA.below q) (small_of (by omega))
  have HEB : Hid ((B.mo.bulk : Int) ≤ 100000 → ∀ w, Below W.heap.size W w → Calls Try.prog 6 #[.agg B.cs] w (EncR w B)) := fun k w q => encode_as (hB.below q) (small_of (by omega))
  obtain ⟨b, hb⟩ := some_bool (A.mo = B.mo)
  have HS2 : Hid (∀ w, Below W.heap.size W w → Calls Try.prog 7 #[.agg A.cs, .agg B.cs] w fun e w' => e = .returned (.bool b) ∧ Below w.heap.size w w') := fun w q => kSameModule_as (hA.below q) (hB.below q) b hb
  have HWK : Hid (∀ w, Calls Try.prog 5 #[] w fun e w' => e = .returned (.bool true) ∧ Below w.heap.size w w') := iworks_any
  have HBA : Hid (∀ c ∈ imgB (moB A.mo), c < 256) := imgB_byte (moB_byte hA)
  have HBB : Hid (∀ c ∈ imgB (moB B.mo), c < 256) := imgB_byte (moB_byte hB)
  have HEQ : Hid (chkE A = 0 → chkE B = 0 → (imgB (moB A.mo) = imgB (moB B.mo) ↔ b = true)) := fun ha hb' => by
    rw [hb]
    exact ⟨fun h => moB_inj (fit_of (parts_of ha)) (fit_of (parts_of hb')) (imgB_inj h), fun h => by rw [h]⟩
  clear hA hB hb
  generalize hAM : A.mo.bulk = KA at *
  generalize hBM : B.mo.bulk = KB at *
  unfold MoP.cs at *
  generalize A.tys.length = n1 at *
  generalize A.txs.length = n2 at *
  generalize A.fns.length = n3 at *
  generalize B.tys.length = m1 at *
  generalize B.txs.length = m2 at *
  generalize B.fns.length = m3 at *
  go_enter Try.func3, Try.ntmps3
  go_upto_region 1 with fail
  generalize (W.alloc (.cells #[.slice A.ta n1 A.tc, .slice A.sa n2 A.sc, .slice A.fa n3 A.fc] 26)).alloc (.cells #[.slice B.ta m1 B.tc, .slice B.sa m2 B.sc, .slice B.fa m3 B.fc] 26) = w2 at *
  obtain ⟨x0, x1, x2, xf⟩ := own3 o1
  obtain ⟨y0, y1, y2, yf⟩ := own3 o2
  go_wp2_with fail
  refine Calls.mono (HBK.out w2 hb0) ?_
  rintro e w3 ⟨r1, rfl, hr1, b3⟩
  replace hb0 := hb0.trans (b3.mono hb0.size)
  replace o1 := o1.below b3
  replace o2 := o2.below b3
  clear x0 x1 x2 xf y0 y1 y2 yf b3
  obtain ⟨x0, x1, x2, xf⟩ := own3 o1
  obtain ⟨y0, y1, y2, yf⟩ := own3 o2
  by_cases hq1 : (100000 : Int) < r1
  · clear hr1
    go_wp2_with fail
    refine Calls.mono (HWK.out w3) ?_
    rintro e w4 ⟨rfl, b4⟩
    replace hb0 := hb0.trans (b4.mono hb0.size)
    go_wp2
    go_ret
    exact ⟨rfl, hb0⟩
  · have hle1 : r1 ≤ 100000 := by omega
    have HK : Hid ((KA : Int) ≤ 100000) := by have := hr1 hle1; rw [hAM] at this; exact this
    clear hr1 hAM
    go_wp2_with fail
    refine Calls.mono (HBL.out w3 hb0) ?_
    rintro e w4 ⟨r2, rfl, hr2, b4⟩
    replace hb0 := hb0.trans (b4.mono hb0.size)
    replace o1 := o1.below b4
    replace o2 := o2.below b4
    clear x0 x1 x2 xf y0 y1 y2 yf b4
    obtain ⟨x0, x1, x2, xf⟩ := own3 o1
    obtain ⟨y0, y1, y2, yf⟩ := own3 o2
    by_cases hq2 : (100000 : Int) < r2
    · clear hr2
      go_wp2_with fail
      refine Calls.mono (HWK.out w4) ?_
      rintro e w5 ⟨rfl, b5⟩
      replace hb0 := hb0.trans (b5.mono hb0.size)
      go_wp2
      go_ret
      exact ⟨rfl, hb0⟩
    · have hle2 : r2 ≤ 100000 := by omega
      have HL : Hid ((KB : Int) ≤ 100000) := by have := hr2 hle2; rw [hBM] at this; exact this
      clear hr2 hBM
      have hC := HEA.out HK.out w4 hb0
      go_wp2_with fail
      refine Calls.mono hC ?_
      rintro e w5 ⟨⟨a1, L1, c1, rfl, p1, p2⟩, b5⟩
      replace hb0 := hb0.trans (b5.mono hb0.size)
      replace o1 := o1.below b5
      replace o2 := o2.below b5
      clear x0 x1 x2 xf y0 y1 y2 yf b5 hC
      obtain ⟨x0, x1, x2, xf⟩ := own3 o1
      obtain ⟨y0, y1, y2, yf⟩ := own3 o2
      have hC := HEB.out HL.out w5 hb0
      go_wp2_with fail
      refine Calls.mono hC ?_
      rintro e w6 ⟨⟨a2, L2, c2, rfl, q1, q2⟩, b6⟩
      have hz5 := hb0.size
      replace hb0 := hb0.trans (b6.mono hb0.size)
      replace o1 := o1.below b6
      replace o2 := o2.below b6
      clear x0 x1 x2 xf y0 y1 y2 yf hC
      by_cases hEA : chkE A = 0
      · by_cases hEB : chkE B = 0
        · obtain ⟨e1, r1, -⟩ := p1 hEA
          obtain ⟨e2, r2, -⟩ := q1 hEB
          have hiff := HEQ.out hEA hEB
          have HLA : Hid ((imgB (moB A.mo)).length ≤ 2097152) := img_le hEA
          have HLB : Hid ((imgB (moB B.mo)).length ≤ 2097152) := img_le hEB
          have r1' := r1.belowR b6
          rw [hEA, hEB]
          clear p1 p2 q1 q2 hEA hEB r1 b6
          have HC1 : Hid (∀ w', Below w6.heap.size w6 w' → (convert 29 9 (.slice a1 L1 c1)).run Try.prog w' = .ok (.string (strN (imgB (moB A.mo)))) w') := fun w' hb => by
            have hr := r1'.belowR hb
            rw [e1] at hr
            obtain ⟨a', c', e', hl⟩ := row_lies hr HBA.out (by have := HLA.out; omega)
            cases e'
            exact conv_any hl e1
          have HC2 : Hid (∀ w', Below w6.heap.size w6 w' → (convert 29 9 (.slice a2 L2 c2)).run Try.prog w' = .ok (.string (strN (imgB (moB B.mo)))) w') := fun w' hb => by
            have hr := r2.belowR hb
            rw [e2] at hr
            obtain ⟨a', c', e', hl⟩ := row_lies hr HBB.out (by have := HLB.out; omega)
            cases e'
            exact conv_any hl e2
          have hsb : ((strN (imgB (moB A.mo))).toList == (strN (imgB (moB B.mo))).toList) = b := by
            have hh := strN_iff HBA.out HBB.out
            rw [hiff] at hh
            generalize ((strN (imgB (moB A.mo))).toList == (strN (imgB (moB B.mo))).toList) = z at *
            cases z <;> cases b <;> simp_all
          generalize strN (imgB (moB A.mo)) = S1 at *
          generalize strN (imgB (moB B.mo)) = S2 at *
          clear hiff e1 e2 r1' r2 HEQ HBA HBB HLA HLB
          have C1 : ∀ t : After w6, (convert 29 9 (.slice a1 L1 c1)).run Try.prog t.1 = .ok (.string S1) t.1 := fun t => HC1.out t.1 t.2
          have C2 : ∀ t : After w6, (convert 29 9 (.slice a2 L2 c2)).run Try.prog t.1 = .ok (.string S2) t.1 := fun t => HC2.out t.1 t.2
          obtain ⟨x0, x1, x2⟩ := own3c o1
          obtain ⟨y0, y1, y2⟩ := own3c o2
          have HB0 : Hid (Below W.heap.size W w6) := hb0
          have Q1 : Hid (∀ t : After w6, Calls Try.prog 7 #[.agg #[.slice A.ta n1 A.tc, .slice A.sa n2 A.sc, .slice A.fa n3 A.fc], .agg #[.slice B.ta m1 B.tc, .slice B.sa m2 B.sc, .slice B.fa m3 B.fc]] t.1 fun e w'' => e = .returned (.bool b) ∧ ∃ t' : After w6, w'' = t'.1) := fun t => quiet_new t (HS2.out t.1 (HB0.out.trans (t.2.mono HB0.out.size)))
          have Q2 : Hid (∀ t : After w6, Calls Try.prog 5 #[] t.1 fun e w'' => e = .returned (.bool true) ∧ ∃ t' : After w6, w'' = t'.1) := fun t => quiet_new t (HWK.out t.1)
          clear hb0 o1 o2 HC1 HC2 HS2 HWK
          go_upto_region 7 with fail
          cases b
          all_goals (
            refine wp_region_after (by kernel_rfl) (by kernel_rfl) ?_
            repeat (go_big_quiet_step (with_reducible exact rfl))
            go_big_quiet_step (exact Q1.out _)
            repeat (go_big_quiet_step (with_reducible exact rfl))
            go_big_quiet_step (exact Q2.out _)
            repeat (go_big_quiet_step (with_reducible exact rfl))
            refine wpQuiet_nil ?_
            rintro w7 ⟨t7, e7⟩
            have b7 : Below w6.heap.size w6 w7 := by rw [e7]; exact t7.2
            have b8 := HB0.out.trans (b7.mono HB0.out.size)
            clear e7 t7 Q1 Q2 C1 C2 x0 x1 x2 y0 y1 y2
            go_wp2
            go_ret
            exact ⟨rfl, b8⟩)
        · have hd : (((chkE B : Nat) : Int) == 0) = false := by simp; omega
          rw [hEA]
          clear p1 p2 q1 q2 hEA hEB
          go_wp2_with fail
          refine Calls.mono (HWK.out w6) ?_
          rintro e w7 ⟨rfl, b7⟩
          replace hb0 := hb0.trans (b7.mono hb0.size)
          go_wp2
          go_ret
          exact ⟨rfl, hb0⟩
      · have hd : (((chkE A : Nat) : Int) == 0) = false := by simp; omega
        clear p1 p2 q1 q2 hEA
        go_wp2_with fail
        refine Calls.mono (HWK.out w6) ?_
        rintro e w7 ⟨rfl, b7⟩
        replace hb0 := hb0.trans (b7.mono hb0.size)
        go_wp2
        go_ret
        exact ⟨rfl, hb0⟩
end Go.Proofs.Ytibcakmodkbliaa
