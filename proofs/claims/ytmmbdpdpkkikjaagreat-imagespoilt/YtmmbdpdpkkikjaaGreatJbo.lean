/-
  THE MODULE WITHOUT ANYTHING: Check's parts, the writer, the body.
  slices.Grow of nothing, slices.Concat of rows of bytes.
  THE MODULE WITHOUT ANYTHING, as bytes: Encode, works.
  A MODULE's BYTES: bodyOf, Encode.
  ImageUnlike, walked.
  LOAD AS MATHEMATICS: what it answers; there and back; spoilt bytes.
  Load's CONTRACT.
-/
import Derived.Test.YtmmbdpdpkkikjaaGreatJwt
import Derived.Test.YtmmbdpdpkkikjaaGreatJbs
import Derived.Lib.AppendZeros
import Derived.Laws.AppendOwn
import Derived.Test.YtmmbdpdpkkikjaaGreatWi
import Derived.Test.YtmmbdpdpkkikjaaGreatJv
import Derived.Lib.SlBytesConst
import Derived.Test.YtmmbdpdpkkikjaaGreatJms
import Derived.Test.YtmmbdpdpkkikjaaGreatMp
import Derived.Test.YtmmbdpdpkkikjaaGreatJld
namespace Go.Proofs.YtmmbdpdpkkikjaaGreat
open Go.RowKit
set_option linter.unusedVariables false

abbrev zMo : Array Value := #[.slice none 0 0, .slice none 0 0, .slice none 0 0]
set_option maxHeartbeats 1000000 in
set_option maxRecDepth 100000 in
theorem parts_empty (w : World) : Calls Tryz.prog 49 #[.agg zMo] w fun e w' => e = .returned (.int .i64 0) ∧ Below w.heap.size w w' := by
  have o1 := Own.new w zMo 26
  have hb := new_below w (.cells zMo 26)
  go_enter Tryz.func49, Tryz.ntmps49
  go_upto_region 1 with fail
  generalize w.alloc (.cells zMo 26) = w1 at *
  obtain ⟨x0, x1, x2, xf⟩ := own3 o1
  go_wp2_with fail
  go_loopw [30] (fun i wr => i = .int .i64 0 ∧ wr = w1) (fun _ _ => 0)
  case atStart => exact ⟨rfl, rfl⟩
  case round =>
    obtain ⟨rfl, e0⟩ := hrel
    have e0 := e0.symm
    subst e0
    go_wp2_with fail
    go_loopw [44] (fun i wr => i = .int .i64 0 ∧ wr = w1) (fun _ _ => 0)
    case atStart => exact ⟨rfl, rfl⟩
    case round =>
      obtain ⟨rfl, e0⟩ := hrel
      have e0 := e0.symm
      subst e0
      go_wp2_with fail
      go_loopw [55] (fun i wr => i = .int .i64 0 ∧ wr = w1) (fun _ _ => 0)
      case atStart => exact ⟨rfl, rfl⟩
      case round =>
        obtain ⟨rfl, e0⟩ := hrel
        have e0 := e0.symm
        subst e0
        go_wp2
        go_ret
        exact ⟨rfl, hb⟩
theorem put0 : Q01.putN 0 = [0] := rfl
theorem inum0 {w : World} {p B : Nat} {s : Ws} (h : IwAt w p B s) (hB : B ≤ w.heap.size) : Calls Tryz.prog 90 #[ptr p, .int .i64 0] w (IwRet p B (s.put [0]) w) := by
  have := inumber_as h hB 0 (by omega) (by rw [put0]; simp) (by rw [put0]; simp)
  rw [put0] at this
  exact this
set_option maxHeartbeats 2000000 in
set_option maxRecDepth 100000 in
theorem module_empty {w : World} {p B : Nat} (h : IwAt w p B ([], false)) (hB : B ≤ w.heap.size) :
    Calls Tryz.prog 50 #[ptr p, .agg zMo] w (IwRet p B ([0, 0, 0], false) w) := by
  have o1 := Own.new w zMo 26
  have hb := new_below w (.cells zMo 26)
  have hp : ¬ w.heap.size = p := by obtain ⟨_, a, c, h1, -⟩ := h; have := h1.lt; omega
  have h1 := h.below hb
  have HB : Hid (B ≤ w.heap.size) := hB
  clear h hB
  go_enter Tryz.func50, Tryz.ntmps50
  go_upto_region 1 with fail
  have hs : w.heap.size ≤ (w.alloc (.cells zMo 26)).heap.size := hb.size
  have f1 : IwFr p B w (w.alloc (.cells zMo 26)) := IwFr.of hb
  generalize w.alloc (.cells zMo 26) = w1 at *
  generalize w.heap.size = g at *
  obtain ⟨x0, x1, x2, xf⟩ := own3 o1
  go_wp2_with fail
  refine Calls.mono (inum0 h1 (Nat.le_trans HB.out hs)) ?_
  rintro e w2 ⟨rfl, h2, f2⟩
  have o2 := f2.typ g _ _ o1 (by decide) hp
  have s2 : g ≤ w2.heap.size := Nat.le_trans hs f2.fr.size
  have f12 := f1.trans f2
  clear x0 x1 x2 xf o1 h1 f1 f2 hs hb
  obtain ⟨x0, x1, x2, xf⟩ := own3 o2
  go_wp2_with fail
  go_loopw [18] (fun i wr => i = .int .i64 0 ∧ wr = w2) (fun _ _ => 0)
  case atStart => exact ⟨rfl, rfl⟩
  case round =>
    obtain ⟨rfl, rfl⟩ := hrel
    go_wp2_with fail
    refine Calls.mono (inum0 h2 (Nat.le_trans HB.out s2)) ?_
    rintro e w3 ⟨rfl, h3, f3⟩
    have o3 := f3.typ g _ _ o2 (by decide) hp
    have s3 : g ≤ w3.heap.size := Nat.le_trans s2 f3.fr.size
    have f13 := f12.trans f3
    clear x0 x1 x2 xf o2 h2 f12 f3 s2
    obtain ⟨x0, x1, x2, xf⟩ := own3 o3
    go_wp2_with fail
    go_loopw [34] (fun i wr => i = .int .i64 0 ∧ wr = w3) (fun _ _ => 0)
    case atStart => exact ⟨rfl, rfl⟩
    case round =>
      obtain ⟨rfl, rfl⟩ := hrel
      go_wp2_with fail
      refine Calls.mono (inum0 h3 (Nat.le_trans HB.out s3)) ?_
      rintro e w4 ⟨rfl, h4, f4⟩
      have o4 := f4.typ g _ _ o3 (by decide) hp
      have f14 := f13.trans f4
      clear x0 x1 x2 xf o3 h3 f13 f4 s3
      obtain ⟨x0, x1, x2, xf⟩ := own3 o4
      have HR : Hid (IwAt w4 p B ([0, 0, 0], false) ∧ IwFr p B w w4) := ⟨h4, f14⟩
      clear h4 f14
      go_wp2_with fail
      go_loopw [50] (fun i wr => i = .int .i64 0 ∧ wr = w4) (fun _ _ => 0)
      case atStart => exact ⟨rfl, rfl⟩
      case round =>
        obtain ⟨rfl, rfl⟩ := hrel
        go_wp2
        go_end0
        exact ⟨rfl, HR.out⟩
set_option maxHeartbeats 2000000 in
set_option maxRecDepth 100000 in
theorem body_empty (w : World) : Calls Tryz.prog 28 #[.agg zMo] w fun e w' => ∃ a c, e = .returned (.tuple #[.slice a 3 c, .int .i64 0]) ∧ Rw w' 5 1 (.slice a 3 c) 3 (nums [0, 0, 0]) ∧ (∀ b, (Value.slice a 3 c).ownBlock = some b → w.heap.size ≤ b) ∧ Below w.heap.size w w' := by
  have o1 := Own.new w zMo 26
  have hb := new_below w (.cells zMo 26)
  go_enter Tryz.func28, Tryz.ntmps28
  go_upto_region 1 with fail
  generalize w.alloc (.cells zMo 26) = w1 at *
  obtain ⟨x0, x1, x2, xf⟩ := own3 o1
  go_wp2_with fail
  refine Calls.mono (parts_empty w1) ?_
  rintro e w2 ⟨rfl, b2⟩
  replace o1 := o1.below b2
  replace hb := hb.trans (b2.mono hb.size)
  clear x0 x1 x2 xf b2
  have oW := Own.new w2 #[.slice none 0 0, .bool false] 88
  have o3 := o1.alloc (.cells #[.slice none 0 0, .bool false] 88)
  have hs2 := hb.size
  have hb3 := hb.alloc hb.size (.cells #[.slice none 0 0, .bool false] 88)
  have hA : IwAt (w2.alloc (.cells #[.slice none 0 0, .bool false] 88)) w2.heap.size w.heap.size ([], false) := ⟨by simp, none, 0, oW, World.ownsRow_nil _ _ _ _, by simp [Value.ownBlock]⟩
  go_upto_region 5 with fail
  have hgp : ¬ w.heap.size = w2.heap.size := by have := o1.lt; omega
  generalize w2.alloc (.cells #[.slice none 0 0, .bool false] 88) = w3 at *
  obtain ⟨p, hp⟩ : ∃ p, w2.heap.size = p := ⟨_, rfl⟩
  rw [hp] at oW hA hgp hs2
  rw [hp]
  obtain ⟨x0, x1, x2, xf⟩ := own3 o3
  go_wp2_with fail
  refine Calls.mono (module_empty hA hb3.size) ?_
  rintro e w4 ⟨rfl, ⟨h40, a, c, o4, r4, n4⟩, f4⟩
  have o4 : Own w4 p #[.slice a 3 c, .bool false] 88 := o4
  have hb4 := below_fr hb3 f4.fr (fun g q => by rcases q with rfl | q <;> omega)
  have HR : Hid (Rw w4 5 1 (.slice a 3 c) 3 (nums [0, 0, 0]) ∧ (∀ b, (Value.slice a 3 c).ownBlock = some b → w.heap.size ≤ b) ∧ Below w.heap.size w w4) := ⟨r4, n4, hb4⟩
  clear x0 x1 x2 xf r4 n4 hb4 f4 h40
  obtain ⟨y0, y1, yf⟩ := own2 o4
  go_wp2
  go_ret2
  exact ⟨a, c, rfl, HR.out⟩
end Go.Proofs.YtmmbdpdpkkikjaaGreat
namespace Go.Proofs.YtmmbdpdpkkikjaaGreat
open Go.RowKit Go.Lib
set_option linter.unusedVariables false

theorem wpList_appRg {t t' : TypeId} {W W' : World} {ops : Array Oper} {rest : List Oper} {o : Oper} {a : Act} {Q : Exit → Act → World → Prop} (hgd : o.guard = none) (s x : Operand)
    (ho : o.op = .call { callee := .builtin .append, args := #[s, x], argTypes := #[t, t'] }) (v u r : Value) (hs : a.eval s = v) (hx : a.eval x = u) (hrun : (Builtin.append_ #[t, t'] o.type #[v, u]).run Tryz.prog W = .ok r W')
    (h : wpList Tryz.prog ops Q rest (a.put o.dst r) W') : wpList Tryz.prog ops Q (o :: rest) a W := by
  refine wpList_plain hgd fun K hK => ?_
  unfold Oper.wp execOp
  simp only [ho, resolve, invoke, builtin, Sem.run_bind, Sem.run_pure, Result.andThen_ok, List.map_toArray, List.map_cons, List.map_nil, hs, hx, hrun]
  exact hK _ _ h
theorem zeroCells_size (z : Array Value) (n : Nat) : (Builtin.zeroCells z n).size = n * z.size := by simp [Builtin.zeroCells]
set_option maxHeartbeats 2000000 in
set_option maxRecDepth 100000 in
theorem grow_nil (n : Nat) (h0 : 0 < n) (hn : n ≤ 1000000000) (w : World) :
    Calls Tryz.prog 53 #[.slice none 0 0, .int .i64 (n : Int)] w fun e w' => ∃ g c, e = .returned (.slice (some ⟨g, 0, none⟩) 0 c) ∧ Rw w' 5 1 (.slice (some ⟨g, 0, none⟩) 0 c) 0 [] ∧ w.heap.size ≤ g ∧ Below w.heap.size w w' := by
  obtain ⟨i8, hi, hz0, hz1, hz2⟩ := info_parts info8
  have hrz : ∀ (ty : TypeId) (W : World), (Builtin.append_ #[29, 3] ty #[.slice none 0 0, .int .i64 (n : Int)]).run Tryz.prog W = .ok (.slice (some ⟨W.heap.size, 0, none⟩) n (grownCap W n 0 5)) (W.drew.alloc (.cells (Builtin.zeroCells (Value.int .u8 0).cells n ++ Builtin.zeroCells (Value.int .u8 0).cells (grownCap W n 0 5 - n)) 5)) :=
    fun ty W => run_append_nil_zeros (P := Tryz.prog) W 29 3 ty 5 i8 (.int .u8 0) .i64 .i64 Tryz.underlying29 Tryz.underlying3 hi hz0 n h0 (by rw [hz1]; omega) (by omega) (by rw [hz2]; omega)
  obtain ⟨C, W1, hrun, RES, hb1, hC1⟩ : ∃ (C : Nat) (W1 : World), (∀ ty : TypeId, (Builtin.append_ #[29, 3] ty #[.slice none 0 0, .int .i64 (n : Int)]).run Tryz.prog w = .ok (.slice (some ⟨w.heap.size, 0, none⟩) n C) W1) ∧ Rw W1 5 1 (.slice (some ⟨w.heap.size, 0, none⟩) 0 C) 0 [] ∧ Below w.heap.size w W1 ∧ n ≤ C := by
    refine ⟨_, _, fun ty => hrz ty w, ?_, ?_, grownCap_ge w n 0 5⟩
    · have hg1 := grownCap_ge w n 0 5
      have hg2 := grownCap_le_maxLen w n 0 5 (by unfold maxLen; omega)
      refine ⟨rfl, .inr ⟨w.heap.size, _, _, rfl, Nat.zero_le _, heap_alloc_new w.drew _, Nat.zero_le _, hg2, ?_, rfl⟩⟩
      rw [Array.size_append, zeroCells_size, zeroCells_size]
      show n * 1 + (grownCap w n 0 5 - n) * 1 = grownCap w n 0 5 * 1
      omega
    · have h := new_below w.drew (.cells (Builtin.zeroCells (Value.int .u8 0).cells n ++ Builtin.zeroCells (Value.int .u8 0).cells (grownCap w n 0 5 - n)) 5)
      exact ⟨h.os, h.tape, h.output, h.size, h.block⟩
  have hni : (0 : Int) < (n : Int) := by omega
  have hnn : ¬ (n : Int) < 0 := by omega
  have hni2 : (n : Int) ≤ 1000000000 := by omega
  have hC0 : ¬ C = 0 := by omega
  have HR : Hid (Rw W1 5 1 (.slice (some ⟨w.heap.size, 0, none⟩) 0 C) 0 [] ∧ w.heap.size ≤ w.heap.size ∧ Below w.heap.size w W1) := ⟨RES, Nat.le_refl _, hb1⟩
  clear hi hz0 hz1 hz2 hrz RES hb1 hC1 h0
  go_enter Tryz.func53, Tryz.ntmps53
  go_wp2_with (refine wpList_appRg (by rfl) (.tmp 20) (.tmp 21) (by rfl) _ _ _ (by rfl) (by rfl) (hrun _) ?_)
  go_ret
  exact ⟨_, C, rfl, HR.out⟩
/-- The parts of a Concat. -/
structure PtAt (w : World) (v : Value) (ys : List Nat) : Prop where
  ex : ∃ a c, v = .slice a ys.length c ∧ Lies w a ys ∧ (a = none → c = 0)
theorem PtAt.below {w w' : World} {v : Value} {ys : List Nat} (h : PtAt w v ys) (hb : Below w.heap.size w w') : PtAt w' v ys := by
  obtain ⟨a, c, h1, h2, h3⟩ := h.ex
  exact ⟨a, c, h1, h2.below hb, h3⟩
abbrev Pt := Value × List Nat
def zPt : Pt := (.slice none 0 0, [])
def catN (l : List Pt) (k : Nat) : List Nat := ((l.take k).map Prod.snd).flatten
theorem catN_succ (l : List Pt) (k : Nat) (h : k < l.length) : catN l (k + 1) = catN l k ++ (l.getD k zPt).2 := by
  unfold catN
  rw [List.take_succ_eq_append_getElem h, List.map_append, List.flatten_append]
  simp [List.getD, h]
theorem catN_le (l : List Pt) (k : Nat) : (catN l k).length ≤ (catN l l.length).length := by
  have h : catN l l.length = catN l k ++ ((l.drop k).map Prod.snd).flatten := by
    unfold catN
    rw [List.take_length, ← List.flatten_append, ← List.map_append, List.take_append_drop]
  rw [h, List.length_append]
  omega
set_option maxHeartbeats 4000000 in
set_option maxRecDepth 100000 in
theorem concat_as {w : World} {gS : Nat} (l : List Pt) (n : Nat) (hn : n = l.length) (hn1 : n ≤ 100) (o : Own w gS (l.map Prod.fst).toArray 29) (hp : ∀ y ∈ l, PtAt w y.1 y.2) (T : Nat) (hT : T = (catN l l.length).length) (hT0 : 0 < T) (hT1 : T ≤ 10000000) :
    Calls Tryz.prog 31 #[.slice (some ⟨gS, 0, none⟩) n n] w fun e w' => ∃ a c, e = .returned (.slice a T c) ∧ Rw w' 5 1 (.slice a T c) T (nums (catN l l.length)) ∧ (∀ b, (Value.slice a T c).ownBlock = some b → w.heap.size ≤ b) ∧ Below w.heap.size w w' := by
  have HN : Hid (n = l.length) := hn
  have HT : Hid (T = (catN l l.length).length) := hT
  have HP : Hid (∀ W, Below w.heap.size w W → ∀ k, k < n → PtAt W (l.getD k zPt).1 (l.getD k zPt).2) := fun W q k hk => (hp _ (by simp [List.getD, show k < l.length by omega])).below q
  have HC : Hid (∀ W, Below w.heap.size w W → ∀ k, k < n → W.cell? ⟨gS, k, none⟩ = some (l.getD k zPt).1) := fun W q k hk => by
    rw [(o.below q).cell k]
    simp [List.getD, show k < l.length by omega]
  have HLE : Hid (∀ k, (catN l k).length ≤ T) := fun k => by rw [hT]; exact catN_le l k
  have hni : (n : Int) ≤ 100 := by omega
  have hTi : (T : Int) ≤ 10000000 := by omega
  clear hn hT o hp
  go_enter Tryz.func31, Tryz.ntmps31
  go_wp2_with fail
  go_loopw [3, 11] (fun sz i wr => ∃ k : Nat, k ≤ n ∧ i = .int .i64 (k : Int) ∧ sz = .int .i64 ((catN l k).length : Int) ∧ wr = w) (fun _ i _ => n - (intOf i).toNat)
  case atStart => exact ⟨0, Nat.zero_le _, rfl, rfl, rfl⟩
  case round =>
    obtain ⟨k, hk, rfl, rfl, e0⟩ := hrel
    have e0 := e0.symm
    subst e0
    by_cases hlt : k < n
    · obtain ⟨a, c, h1, -, -⟩ := (HP.out w (Below.refl _ _) k hlt).ex
      have d := HC.out w (Below.refl _ _) k hlt
      rw [h1] at d
      have hs := catN_succ l k (by rw [← HN.out]; exact hlt)
      have h5 := HLE.out (k + 1)
      rw [hs, List.length_append] at h5
      have HS : Hid ((catN l (k + 1)).length = (catN l k).length + (l.getD k zPt).2.length) := by rw [Hid, hs, List.length_append]
      clear hs h1
      generalize (l.getD k zPt).2.length = m at *
      generalize (catN l k).length = S at *
      have hki : (k : Int) < (n : Int) := by omega
      have hk0 : (0 : Int) ≤ (k : Int) := by omega
      have hS : (S : Int) + (m : Int) ≤ 10000000 := by omega
      have hSn : ¬ (S : Int) + (m : Int) < 0 := by omega
      clear h5
      go_wp2
      go_roundw
      case rel => exact ⟨k + 1, hlt, by go_num, by rw [HS.out]; go_num, by first | rfl | trivial⟩
      case measure => simp [intOf]; omega
    · obtain rfl : k = n := by omega
      have HTT : Hid (((catN l k).length : Int) = (T : Int)) := by unfold Hid; rw [HN.out, ← HT.out]
      rw [HTT.out]
      go_wp2_with fail
      refine Calls.mono (grow_nil T hT0 (by omega) w) ?_
      rintro e w1 ⟨g, c, rfl, r1, hg1, b1⟩
      have REL : Hid (Rw w1 5 1 (.slice (some ⟨g, 0, none⟩) 0 c) 0 (nums (catN l 0)) ∧ (∀ b, (Value.slice (some ⟨g, 0, none⟩) 0 c).ownBlock = some b → w.heap.size ≤ b) ∧ Below w.heap.size w w1) := ⟨r1, fun b q => by cases q; exact hg1, b1⟩
      clear r1 hg1 b1
      go_wp2_with fail
      go_loopg [6, 27] k (fun gh v i wr => ∃ (j : Nat) (a : Option Addr) (c : Nat), j + gh = k ∧ i = .int .i64 (j : Int) ∧ v = .slice a (catN l j).length c ∧ Rw wr 5 1 (.slice a (catN l j).length c) (catN l j).length (nums (catN l j)) ∧ (∀ b, (Value.slice a (catN l j).length c).ownBlock = some b → w.heap.size ≤ b) ∧ Below w.heap.size w wr)
      case atStart => exact ⟨0, _, c, by omega, rfl, rfl, REL.out⟩
      case round =>
        clear REL
        obtain ⟨j, a, c, hj, rfl, rfl, hr, hnew, hb⟩ := hrel
        cases gk with
        | succ gq =>
          have hjk : j < k := by omega
          obtain ⟨a2, c2, h1, hl2, hno⟩ := (HP.out wr hb j hjk).ex
          have d := HC.out wr hb j hjk
          rw [h1] at d
          have hs := catN_succ l j (by rw [← HN.out]; exact hjk)
          have h5 := HLE.out (j + 1)
          have HG : Hid (∀ (ao' : Option Addr) (n' c' : Nat) (w' : World), n' = (catN l j ++ (l.getD j zPt).2).length → Rw w' 5 1 (.slice ao' n' c') (catN l j ++ (l.getD j zPt).2).length (nums (catN l j ++ (l.getD j zPt).2)) → wr.grownBy w' (Value.slice a (catN l j).length c).ownBlock → ((Value.slice ao' n' c').ownBlock = (Value.slice a (catN l j).length c).ownBlock ∨ (Value.slice ao' n' c').ownBlock = some wr.heap.size) → n' = (catN l (j + 1)).length ∧ Rw w' 5 1 (.slice ao' (catN l (j + 1)).length c') (catN l (j + 1)).length (nums (catN l (j + 1))) ∧ (∀ b, (Value.slice ao' (catN l (j + 1)).length c').ownBlock = some b → w.heap.size ≤ b) ∧ Below w.heap.size w w') := by
            intro ao' n' c' w' q0 q1 q2 q3
            rw [← hs] at q0 q1
            subst q0
            refine ⟨rfl, q1, fun b q => ?_, hb.grown q2 hb.size hnew⟩
            rcases q3 with q3 | q3
            · exact hnew b (by rw [← q3]; exact q)
            · rw [q3] at q; cases q; exact hb.size
          have HSM : Hid ((catN l j).length + (l.getD j zPt).2.length ≤ 100000000000) := by rw [hs, List.length_append] at h5; unfold Hid; omega
          have hji : (j : Int) < (k : Int) := by omega
          have hj0 : (0 : Int) ≤ (j : Int) := by omega
          clear hs h5 h1 hnew hb
          go_wp2_with (refine wpList_appL (by rfl) (.tmp 31) (.tmp 32) (by rfl) _ (catN l j) (by rfl) hr a2 _ c2 (l.getD j zPt).2 (by rfl) hl2 rfl hno HSM.out ?_; intro ao' n' c' w' g0 g1 g2 g3; obtain ⟨ea, k1, k2, k3⟩ := HG.out ao' n' c' w' g0 g1 g2 g3; clear g0 g1 g2 g3 HG hr; subst ea)
          go_roundg gq
          case measure => omega
          case rel => exact ⟨j + 1, _, _, by omega, by go_num, rfl, k1, k2, k3⟩
        | zero =>
          obtain rfl : j = k := by omega
          have HR : Hid (Rw wr 5 1 (.slice a T c) T (nums (catN l l.length)) ∧ (∀ b, (Value.slice a T c).ownBlock = some b → w.heap.size ≤ b) ∧ Below w.heap.size w wr) := by
            have e1 : (catN l j).length = T := by rw [HN.out]; exact HT.out.symm
            rw [e1] at hr hnew
            rw [HN.out] at hr
            exact ⟨hr, hnew, hb⟩
          have e1 : (catN l j).length = T := by rw [HN.out]; exact HT.out.symm
          clear hr hnew hb
          rw [e1]
          clear e1
          go_wp2
          go_ret
          exact ⟨a, c, rfl, HR.out⟩
end Go.Proofs.YtmmbdpdpkkikjaaGreat
namespace Go.Proofs.YtmmbdpdpkkikjaaGreat
open Go.RowKit Go.Lib
set_option linter.unusedVariables false

theorem sum000 : Q01.sumN [0, 0, 0] = 4282505490 := by decide
theorem fix3 : fixN 3 4 = [3, 0, 0, 0] := by decide
theorem fixS : fixN 4282505490 4 = [18, 217, 65, 255] := by decide
def eBytes : List Nat := [84, 82, 77, 1, 3, 0, 0, 0, 0, 0, 0, 18, 217, 65, 255]
theorem own_lies {w : World} {B g n cap : Nat} {xs : List Nat} (hn : n = xs.length) (h : w.ownsRow B 5 1 (.slice (some ⟨g, 0, none⟩) n cap) n (nums xs)) (hb : ∀ c ∈ xs, c < 256) (hm : xs.length ≤ 100) : Lies w (some ⟨g, 0, none⟩) xs := lies_row hn h hb (by omega)
theorem fixed_lit (x : Int) (n : Nat) (hx : x = (n : Int)) (l : List Nat) (hl : fixN n 4 = l) (w : World) (h : n < 18446744073709551616) :
    Calls Tryz.prog 29 #[.int .u64 x, .int .i64 4] w fun e w' => ∃ g, e = .returned (.slice (some ⟨g, 0, none⟩) 4 4) ∧ w'.ownsRow w.heap.size 5 1 (.slice (some ⟨g, 0, none⟩) 4 4) 4 (nums l) ∧ Below w.heap.size w w' := by
  subst hx
  subst hl
  exact fixed_any n 4 w h (by omega) (by omega)
theorem sum_lit (b c : Nat) (w : World) (x : Int) (hx : x = ((Q01.sumN [0, 0, 0] : Nat) : Int)) (hc : ∀ i, i < ([0, 0, 0] : List Nat).length → w.cell? ⟨b, 0 + i, none⟩ = some (.int .u8 ((([0, 0, 0] : List Nat).getD i 0 : Nat) : Int))) :
    Calls Tryz.prog 30 #[.slice (some ⟨b, 0, none⟩) 3 c] w fun e w' => e = .returned (.int .u32 x) ∧ w = w' := by
  subst hx
  exact Q01.sum_row b 0 3 c [0, 0, 0] w rfl (by simp) (by omega) hc
theorem litS : (4282505490 : Int) = ((Q01.sumN [0, 0, 0] : Nat) : Int) := by rw [sum000]; rfl
theorem row0 {w : World} {B : Nat} {e : TypeId} {sz n : Nat} {v : Value} {xs : List Value} (h : w.ownsRow B e sz v n xs) : Rw w e sz v n xs := by
  rcases h with ⟨h1, h2 | ⟨g, cap, cur, h2, -, h3⟩⟩
  · exact ⟨h1, .inl h2⟩
  · exact ⟨h1, .inr ⟨g, cap, cur, h2, Nat.zero_le _, h3⟩⟩
theorem marked_lies (w : World) : Lies (w.alloc (.cells #[.int .u8 84, .int .u8 82, .int .u8 77, .int .u8 1] 5 (4, 5))) (some ⟨w.heap.size, 0, none⟩) [84, 82, 77, 1] := by
  refine ⟨by simp, by simp, .inr ⟨w.heap.size, 0, rfl, fun i hi => ?_⟩⟩
  rw [Nat.zero_add, cell_of_row _ w.heap.size i _ _ _ (heap_alloc_new w _)]
  have : i = 0 ∨ i = 1 ∨ i = 2 ∨ i = 3 := by simp at hi; omega
  rcases this with rfl | rfl | rfl | rfl <;> rfl
set_option maxHeartbeats 2000000 in
set_option maxRecDepth 100000 in
theorem encode_empty (w : World) : Calls Tryz.prog 11 #[.agg zMo] w fun e w' => ∃ a c, e = .returned (.tuple #[.slice a 15 c, .int .i64 0]) ∧ Rw w' 5 1 (.slice a 15 c) 15 (nums eBytes) ∧ Below w.heap.size w w' := by
  have o1 := Own.new w zMo 26
  have hb := new_below w (.cells zMo 26)
  have kc : ∀ w : World, (convert 29 29 (.slice (some ⟨w.heap.size, 0, none⟩) 4 4)).run Tryz.prog (w.alloc (.cells #[.int .u8 84, .int .u8 82, .int .u8 77, .int .u8 1] 5)) = .ok (.slice (some ⟨w.heap.size, 0, none⟩) 4 4) (w.alloc (.cells #[.int .u8 84, .int .u8 82, .int .u8 77, .int .u8 1] 5 (4, 5))) := fun w => run_convert_bytes_const (P := Tryz.prog) w 29 5 _ 4 4 Tryz.underlying29 Tryz.underlying5
  go_enter Tryz.func11, Tryz.ntmps11
  go_upto_region 1 with fail
  generalize w.alloc (.cells zMo 26) = w1 at *
  obtain ⟨x0, x1, x2, xf⟩ := own3 o1
  go_wp2_with fail
  refine Calls.mono (body_empty w1) ?_
  rintro e w2 ⟨a, c, rfl, r2, n2, b2⟩
  replace hb := hb.trans (b2.mono hb.size)
  clear x0 x1 x2 xf b2 o1
  obtain ⟨gb, cap, cur, ea, -⟩ := r2.block (by omega)
  cases ea
  have hF1 := fixed_lit 3 3 rfl [3, 0, 0, 0] fix3 w2 (by omega)
  go_wp2_with fail
  refine Calls.mono hF1 ?_
  rintro e w3 ⟨g3, rfl, r3, b3⟩
  clear hF1
  replace hb := hb.trans (b3.mono hb.size)
  have r2b := r2.belowR b3
  have hcl : ∀ i, i < ([0, 0, 0] : List Nat).length → w3.cell? ⟨gb, 0 + i, none⟩ = some (.int .u8 ((([0, 0, 0] : List Nat).getD i 0 : Nat) : Int)) := by
    intro i hi
    rw [Nat.zero_add]
    have h3 : i = 0 ∨ i = 1 ∨ i = 2 := by simp at hi; omega
    rcases h3 with rfl | rfl | rfl <;> exact Rw.cells r2b _ _ rfl
  have hS := sum_lit gb c w3 4282505490 litS hcl
  clear hcl
  go_wp2_with fail
  refine Calls.mono hS ?_
  rintro e w4 ⟨rfl, rfl⟩
  clear hS
  have hF2 := fixed_lit 4282505490 4282505490 (by simp) [18, 217, 65, 255] fixS w3 (by omega)
  go_wp2_with fail
  refine Calls.mono hF2 ?_
  rintro e w5 ⟨g5, rfl, r5, b5⟩
  clear hF2
  replace hb := hb.trans (b5.mono hb.size)
  have l3 : Lies w5 (some ⟨g3, 0, none⟩) [3, 0, 0, 0] := (own_lies rfl r3 (by simp) (by simp)).below b5
  have l5 : Lies w5 (some ⟨g5, 0, none⟩) [18, 217, 65, 255] := own_lies rfl r5 (by simp) (by simp)
  have l2 : Lies w5 (some ⟨gb, 0, none⟩) [0, 0, 0] := (own_lies rfl r2b (by simp) (by simp)).below b5
  have B6 := new_below w5 (.cells #[.int .u8 84, .int .u8 82, .int .u8 77, .int .u8 1] 5 (4, 5))
  have B7 := B6.alloc B6.size (.cells #[.slice (some ⟨w5.heap.size, 0, none⟩) 4 4, .slice (some ⟨g3, 0, none⟩) 4 4, .slice (some ⟨gb, 0, none⟩) 3 c, .slice (some ⟨g5, 0, none⟩) 4 4] 29)
  have lm := (marked_lies w5).below (new_below _ (.cells #[.slice (some ⟨w5.heap.size, 0, none⟩) 4 4, .slice (some ⟨g3, 0, none⟩) 4 4, .slice (some ⟨gb, 0, none⟩) 3 c, .slice (some ⟨g5, 0, none⟩) 4 4] 29))
  have oS := Own.new (w5.alloc (.cells #[.int .u8 84, .int .u8 82, .int .u8 77, .int .u8 1] 5 (4, 5))) #[.slice (some ⟨w5.heap.size, 0, none⟩) 4 4, .slice (some ⟨g3, 0, none⟩) 4 4, .slice (some ⟨gb, 0, none⟩) 3 c, .slice (some ⟨g5, 0, none⟩) 4 4] 29
  rw [World.size_alloc] at oS
  have hCat := concat_as (w := (w5.alloc (.cells #[.int .u8 84, .int .u8 82, .int .u8 77, .int .u8 1] 5 (4, 5))).alloc (.cells #[.slice (some ⟨w5.heap.size, 0, none⟩) 4 4, .slice (some ⟨g3, 0, none⟩) 4 4, .slice (some ⟨gb, 0, none⟩) 3 c, .slice (some ⟨g5, 0, none⟩) 4 4] 29)) [(.slice (some ⟨w5.heap.size, 0, none⟩) 4 4, [84, 82, 77, 1]), (.slice (some ⟨g3, 0, none⟩) 4 4, [3, 0, 0, 0]), (.slice (some ⟨gb, 0, none⟩) 3 c, [0, 0, 0]), (.slice (some ⟨g5, 0, none⟩) 4 4, [18, 217, 65, 255])] 4 rfl (by omega) oS (by
    intro y hy
    simp at hy
    rcases hy with rfl | rfl | rfl | rfl
    · exact ⟨_, _, rfl, lm, fun e => by cases e⟩
    · exact ⟨_, _, rfl, l3.below B7, fun e => by cases e⟩
    · exact ⟨_, _, rfl, l2.below B7, fun e => by cases e⟩
    · exact ⟨_, _, rfl, l5.below B7, fun e => by cases e⟩) 15 rfl (by omega) (by omega)
  replace hb := hb.trans (B7.mono hb.size)
  clear l2 l3 l5 lm r2 r2b r3 r5 n2 b3 b5 B6
  go_wp2_with fail
  refine Calls.mono hCat ?_
  rintro e w8 ⟨aR, cR, rfl, rR, -, bR⟩
  have HR : Hid (Rw w8 5 1 (.slice aR 15 cR) 15 (nums eBytes) ∧ Below w.heap.size w w8) := ⟨rR, hb.trans (bR.mono hb.size)⟩
  clear hCat rR bR hb B7 oS
  go_wp2
  go_ret2
  exact ⟨aR, cR, rfl, HR.out⟩
theorem strE : strN eBytes = ⟨#[84, 82, 77, 1, 3, 0, 0, 0, 0, 0, 0, 18, 217, 65, 255]⟩ := by decide
set_option maxHeartbeats 2000000 in
set_option maxRecDepth 100000 in
theorem iworks_any (w : World) : Calls Tryz.prog 10 #[] w fun e w' => e = .returned (.bool true) ∧ Below w.heap.size w w' := by
  go_enter Tryz.func10, Tryz.ntmps10
  go_wp2_with fail
  refine Calls.mono (encode_empty w) ?_
  rintro e w1 ⟨a, c, rfl, r1, b1⟩
  have hc : (convert 29 9 (.slice a 15 c)).run Tryz.prog w1 = .ok (.string ⟨#[84, 82, 77, 1, 3, 0, 0, 0, 0, 0, 0, 18, 217, 65, 255]⟩) w1 := by
    obtain ⟨a', c', e, hl⟩ := row_lies (xs := eBytes) r1 (by decide) (by decide)
    cases e
    rw [← strE]
    exact conv_any hl rfl
  clear r1
  go_wp2
  go_ret
  exact ⟨rfl, b1⟩
end Go.Proofs.YtmmbdpdpkkikjaaGreat
namespace Go.Proofs.YtmmbdpdpkkikjaaGreat
open Go.RowKit Go.Lib
set_option linter.unusedVariables false

/-- What Check tells. -/
def chkE (m : MoP) : Nat := if partsE m ≠ 0 then partsE m else if room < (moB m.mo).length then 3 else 0
theorem liB_byte {α : Type} {u : α → List Nat} {l : List α} (h : ∀ a ∈ l, ∀ c ∈ u a, c < 256) : ∀ c ∈ liB u l, c < 256 := by
  intro c hc
  unfold liB at hc
  rcases List.mem_append.1 hc with hc | hc
  · exact Q01.putN_byte _ c hc
  · obtain ⟨v, hv, hc⟩ := List.mem_flatten.1 hc
    obtain ⟨a, ha, rfl⟩ := List.mem_map.1 hv
    exact h a ha c hc
theorem txB_byte (s : ByteArray) : ∀ c ∈ txB s, c < 256 := by
  intro c hc
  rcases List.mem_append.1 hc with hc | hc
  · exact Q01.putN_byte _ c hc
  · exact byS_byte s c hc
theorem nuB_byte (n : Int) : ∀ c ∈ nuB n, c < 256 := Q01.putN_byte _
theorem tyB_byte (t : Ty) (hk : t.kind < 256) : ∀ c ∈ tyB t, c < 256 := by
  intro c hc
  unfold tyB at hc
  rcases List.mem_cons.1 hc with rfl | hc
  · exact hk
  · split at hc
    · rcases List.mem_append.1 hc with hc | hc
      · exact txB_byte _ c hc
      · refine liB_byte (fun a _ c hc => ?_) c hc
        rcases List.mem_append.1 hc with hc | hc
        · exact txB_byte _ c hc
        · exact nuB_byte _ c hc
    · split at hc
      · rcases List.mem_append.1 hc with hc | hc
        · exact nuB_byte _ c hc
        · exact nuB_byte _ c hc
      · split at hc
        · exact nuB_byte _ c hc
        · cases hc
theorem roB_byte (r : Ro) (hk : ∀ c ∈ r.code, c < 256) : ∀ c ∈ roB r, c < 256 := by
  intro c hc
  unfold roB at hc
  rcases List.mem_append.1 hc with hc | hc
  · exact txB_byte _ c hc
  rcases List.mem_append.1 hc with hc | hc
  · exact liB_byte (fun a _ => nuB_byte a) c hc
  rcases List.mem_append.1 hc with hc | hc
  · exact liB_byte (fun a _ => nuB_byte a) c hc
  rcases List.mem_append.1 hc with hc | hc
  · exact nuB_byte _ c hc
  rcases List.mem_append.1 hc with hc | hc
  · exact nuB_byte _ c hc
  rcases List.mem_append.1 hc with hc | hc
  · exact Q01.putN_byte _ c hc
  · exact hk c hc
theorem moB_byte {w : World} {m : MoP} (h : MoIn w m) : ∀ c ∈ moB m.mo, c < 256 := by
  intro c hc
  unfold moB at hc
  rcases List.mem_append.1 hc with hc | hc
  · refine liB_byte (fun t ht => ?_) c hc
    obtain ⟨x, hx, rfl⟩ := List.mem_map.1 ht
    exact tyB_byte _ (h.ty x hx).kind
  rcases List.mem_append.1 hc with hc | hc
  · exact liB_byte (fun s _ => txB_byte s) c hc
  · refine liB_byte (fun r hr => ?_) c hc
    obtain ⟨x, hx, rfl⟩ := List.mem_map.1 hr
    exact roB_byte _ (h.fn x hx).code.1
theorem moB_pos (m : Mo) : 0 < (moB m).length := by
  unfold moB liB
  simp only [List.length_append]
  have := Q01.plen_pos m.types.length
  omega
def BodyRet (w : World) (m : MoP) (e : Ending) (w' : World) : Prop := (∃ a L c, e = .returned (.tuple #[.slice a L c, .int .i64 (chkE m : Nat)]) ∧ (chkE m = 0 → L = (moB m.mo).length ∧ Rw w' 5 1 (.slice a L c) L (nums (moB m.mo))) ∧ (chkE m ≠ 0 → Value.slice a L c = .slice none 0 0)) ∧ Below w.heap.size w w'
set_option maxHeartbeats 2000000 in
set_option maxRecDepth 100000 in
theorem bodyOf_as {w : World} {m : MoP} (hm : MoIn w m) (hs : Small m 100000) : Calls Tryz.prog 28 #[.agg m.cs] w (BodyRet w m) := by
  have HPT : Hid (∀ W, Below w.heap.size w W → Calls Tryz.prog 49 #[.agg m.cs] W fun e w' => e = .returned (.int .i64 (partsE m : Nat)) ∧ Below W.heap.size W w') := fun W hb => parts_as (hm.below hb) hs
  have HMD : Hid (∀ W p, Below w.heap.size w W → w.heap.size ≤ p → IwIs W p w.heap.size [] → partsE m = 0 → Calls Tryz.prog 50 #[ptr p, .agg m.cs] W (IwRt p w.heap.size (moB m.mo) W)) := fun W p hb hp hi h0 => module_is ⟨hb.size, fun k hk => hb.block k hk⟩ hp hi hm hs (fit_of h0)
  have o1 := Own.new w m.cs 26
  have hb := new_below w (.cells m.cs 26)
  obtain ⟨R, HR⟩ : ∃ R, Hid (BodyRet w m = R) := ⟨_, rfl⟩
  rw [HR.out]
  unfold MoP.cs at *
  clear hm hs
  generalize m.tys.length = n1 at *
  generalize m.txs.length = n2 at *
  generalize m.fns.length = n3 at *
  go_enter Tryz.func28, Tryz.ntmps28
  go_upto_region 1 with fail
  generalize w.alloc (.cells #[.slice m.ta n1 m.tc, .slice m.sa n2 m.sc, .slice m.fa n3 m.fc] 26) = w1 at *
  have hC := HPT.out w1 hb
  obtain ⟨x0, x1, x2, xf⟩ := own3 o1
  obtain ⟨E, HE⟩ : ∃ E, Hid (partsE m = E) := ⟨_, rfl⟩
  rw [HE.out] at hC HMD
  go_wp2_with fail
  refine Calls.mono hC ?_
  rintro e w2 ⟨rfl, b2⟩
  replace o1 := o1.below b2
  replace hb := hb.trans (b2.mono hb.size)
  clear x0 x1 x2 xf b2 hC HPT
  by_cases h0 : E = 0
  · subst h0
    have oW := Own.new w2 #[.slice none 0 0, .bool false] 88
    have o3 := o1.alloc (.cells #[.slice none 0 0, .bool false] 88)
    have hs2 := hb.size
    have hb3 := hb.alloc hb.size (.cells #[.slice none 0 0, .bool false] 88)
    have hA : IwIs (w2.alloc (.cells #[.slice none 0 0, .bool false] 88)) w2.heap.size w.heap.size [] := ⟨([], false), ⟨by simp, none, 0, oW, World.ownsRow_nil _ _ _ _, by simp [Value.ownBlock]⟩, by unfold room; simp, fun _ => rfl⟩
    go_upto_region 5 with fail
    have hgp : ¬ w.heap.size = w2.heap.size := by have := o1.lt; omega
    generalize w2.alloc (.cells #[.slice none 0 0, .bool false] 88) = w3 at *
    obtain ⟨p, hp⟩ : ∃ p, w2.heap.size = p := ⟨_, rfl⟩
    rw [hp] at oW hA hgp hs2
    rw [hp]
    have hC := HMD.out w3 p hb3 hs2 hA (by trivial)
    clear hp HMD o1 oW
    obtain ⟨x0, x1, x2, xf⟩ := own3 o3
    go_wp2_with fail
    refine Calls.mono hC ?_
    rintro e w4 ⟨rfl, ⟨⟨xs, ov⟩, ⟨h40, a, c, o4, r4, n4⟩, his1, his2⟩, f4⟩
    simp only at h40 o4 r4 n4 his1 his2
    have hb4 := below_fr hb3 f4.fr (fun g q => by rcases q with rfl | q <;> omega)
    have HI : Hid (ov = decide (room < (moB m.mo).length) ∧ (ov = false → xs = moB m.mo)) := ⟨his1, his2⟩
    clear x0 x1 x2 xf f4 h40 hC hA hb3 hb his1 his2 o3
    obtain ⟨y0, y1, yf⟩ := own2 o4
    cases ov with
    | true =>
      have hc : chkE m = 3 := by unfold chkE; rw [if_neg (by simp [HE.out]), if_pos (of_decide_eq_true HI.out.1.symm)]
      clear HI
      go_wp2
      rw [← HR.out]
      refine ⟨⟨none, 0, 0, by rw [hc]; rfl, fun q => by omega, fun _ => rfl⟩, hb4⟩
    | false =>
      have hc : chkE m = 0 := by unfold chkE; rw [if_neg (by simp [HE.out]), if_neg (of_decide_eq_false HI.out.1.symm)]
      obtain rfl := HI.out.2 rfl
      clear HI
      go_wp2
      rw [← HR.out]
      exact ⟨⟨a, _, c, by rw [hc]; rfl, fun _ => ⟨rfl, r4⟩, fun q => absurd hc q⟩, hb4⟩
  · have hd : ((E : Int) == 0) = false := by simp; omega
    have hc : chkE m = E := by unfold chkE; rw [HE.out, if_pos h0]
    clear HMD o1
    go_wp2
    rw [← HR.out]
    exact ⟨⟨none, 0, 0, by rw [hc]; rfl, fun q => by omega, fun _ => rfl⟩, hb⟩
/-- A module's bytes. -/
def imgB (body : List Nat) : List Nat := [84, 82, 77, 1] ++ (fixN body.length 4 ++ (body ++ fixN (Q01.sumN body) 4))
theorem imgB_length (body : List Nat) : (imgB body).length = body.length + 12 := by unfold imgB; simp [fixN_length]; omega
theorem sumN_lt (l : List Nat) : Q01.sumN l < 4294967296 := by unfold Q01.sumN; omega
def EncR (w : World) (m : MoP) (e : Ending) (w' : World) : Prop := (∃ a L c, e = .returned (.tuple #[.slice a L c, .int .i64 (chkE m : Nat)]) ∧ (chkE m = 0 → L = (imgB (moB m.mo)).length ∧ Rw w' 5 1 (.slice a L c) L (nums (imgB (moB m.mo))) ∧ ∀ b, (Value.slice a L c).ownBlock = some b → w.heap.size ≤ b) ∧ (chkE m ≠ 0 → Value.slice a L c = .slice none 0 0)) ∧ Below w.heap.size w w'
set_option maxHeartbeats 2000000 in
set_option maxRecDepth 100000 in
theorem encode_as {w : World} {m : MoP} (hm : MoIn w m) (hs : Small m 100000) : Calls Tryz.prog 11 #[.agg m.cs] w (EncR w m) := by
  have HBD : Hid (∀ W, Below w.heap.size w W → Calls Tryz.prog 28 #[.agg m.cs] W (BodyRet W m)) := fun W hb => bodyOf_as (hm.below hb) hs
  have HBY : Hid (∀ c ∈ moB m.mo, c < 256) := moB_byte hm
  have HPS : Hid (0 < (moB m.mo).length) := moB_pos _
  have o1 := Own.new w m.cs 26
  have hb := new_below w (.cells m.cs 26)
  have HLE : Hid (chkE m = 0 → (moB m.mo).length ≤ 2097140) := by
    intro h
    unfold chkE at h
    by_cases h1 : partsE m = 0
    · rw [if_neg (by simp [h1])] at h
      split at h
      · cases h
      · rename_i h2; unfold room at h2; omega
    · rw [if_pos h1] at h; exact absurd h h1
  obtain ⟨R, HR⟩ : ∃ R, Hid (EncR w m = R) := ⟨_, rfl⟩
  rw [HR.out]
  have kc : ∀ w : World, (convert 29 29 (.slice (some ⟨w.heap.size, 0, none⟩) 4 4)).run Tryz.prog (w.alloc (.cells #[.int .u8 84, .int .u8 82, .int .u8 77, .int .u8 1] 5)) = .ok (.slice (some ⟨w.heap.size, 0, none⟩) 4 4) (w.alloc (.cells #[.int .u8 84, .int .u8 82, .int .u8 77, .int .u8 1] 5 (4, 5))) := fun w => run_convert_bytes_const (P := Tryz.prog) w 29 5 _ 4 4 Tryz.underlying29 Tryz.underlying5
  unfold MoP.cs at *
  clear hm hs
  generalize m.tys.length = n1 at *
  generalize m.txs.length = n2 at *
  generalize m.fns.length = n3 at *
  go_enter Tryz.func11, Tryz.ntmps11
  go_upto_region 1 with fail
  generalize w.alloc (.cells #[.slice m.ta n1 m.tc, .slice m.sa n2 m.sc, .slice m.fa n3 m.fc] 26) = w1 at *
  have hC := HBD.out w1 hb
  obtain ⟨x0, x1, x2, xf⟩ := own3 o1
  go_wp2_with fail
  refine Calls.mono hC ?_
  rintro e w2 ⟨⟨a, L, c, rfl, q1, q2⟩, b2⟩
  replace hb := hb.trans (b2.mono hb.size)
  clear x0 x1 x2 xf b2 o1 hC HBD
  by_cases h0 : chkE m = 0
  · obtain ⟨hL, r2⟩ := q1 h0
    have hle := HLE.out h0
    have HCE : Hid (chkE m = 0) := h0
    rw [h0]
    clear q1 q2 h0 HLE
    obtain ⟨body, hbody⟩ : ∃ body, moB m.mo = body := ⟨_, rfl⟩
    have HBO : Hid (moB m.mo = body) := hbody
    rw [hbody] at hL r2 hle HBY HPS
    clear hbody
    subst hL
    obtain ⟨gb, cap, cur, ea, -⟩ := r2.block HPS.out
    cases ea
    have hcv : IntKind.u64.wrap ((body.length : Nat) : Int) = (body.length : Int) := by rw [IntKind.wrap_u64]; omega
    have hcs : IntKind.u64.wrap ((Q01.sumN body : Nat) : Int) = (Q01.sumN body : Int) := by have := sumN_lt body; rw [IntKind.wrap_u64]; omega
    have hF1 := fixed_lit (body.length : Int) body.length rfl (fixN body.length 4) rfl w2 (by omega)
    have HLn : Hid (body.length ≤ 2097140) := hle
    clear hle
    go_wp2_with fail
    refine Calls.mono hF1 ?_
    rintro e w3 ⟨g3, rfl, r3, b3⟩
    clear hF1
    replace hb := hb.trans (b3.mono hb.size)
    have r2b := r2.belowR b3
    have hS := Q01.sum_row gb 0 body.length c body w3 rfl HBY.out (by have := HLn.out; omega) (fun i hi => by rw [Nat.zero_add]; exact Rw.cells r2b _ _ (nums_get body i hi))
    go_wp2_with fail
    refine Calls.mono hS ?_
    rintro e w4 ⟨rfl, rfl⟩
    clear hS
    have hF2 := fixed_lit (Q01.sumN body : Int) (Q01.sumN body) rfl (fixN (Q01.sumN body) 4) rfl w3 (by have := sumN_lt body; omega)
    go_wp2_with fail
    refine Calls.mono hF2 ?_
    rintro e w5 ⟨g5, rfl, r5, b5⟩
    clear hF2
    replace hb := hb.trans (b5.mono hb.size)
    have l3 : Lies w5 (some ⟨g3, 0, none⟩) (fixN body.length 4) := (lies_row (fixN_length _ _).symm r3 (fixN_byte _ _) (by rw [fixN_length]; omega)).below b5
    have l5 : Lies w5 (some ⟨g5, 0, none⟩) (fixN (Q01.sumN body) 4) := lies_row (fixN_length _ _).symm r5 (fixN_byte _ _) (by rw [fixN_length]; omega)
    have l2 : Lies w5 (some ⟨gb, 0, none⟩) body := (lies_row rfl r2b HBY.out (by have := HLn.out; omega)).below b5
    have B6 := new_below w5 (.cells #[.int .u8 84, .int .u8 82, .int .u8 77, .int .u8 1] 5 (4, 5))
    have B7 := B6.alloc B6.size (.cells #[.slice (some ⟨w5.heap.size, 0, none⟩) 4 4, .slice (some ⟨g3, 0, none⟩) 4 4, .slice (some ⟨gb, 0, none⟩) body.length c, .slice (some ⟨g5, 0, none⟩) 4 4] 29)
    have lm := (marked_lies w5).below (new_below _ (.cells #[.slice (some ⟨w5.heap.size, 0, none⟩) 4 4, .slice (some ⟨g3, 0, none⟩) 4 4, .slice (some ⟨gb, 0, none⟩) body.length c, .slice (some ⟨g5, 0, none⟩) 4 4] 29))
    have oS := Own.new (w5.alloc (.cells #[.int .u8 84, .int .u8 82, .int .u8 77, .int .u8 1] 5 (4, 5))) #[.slice (some ⟨w5.heap.size, 0, none⟩) 4 4, .slice (some ⟨g3, 0, none⟩) 4 4, .slice (some ⟨gb, 0, none⟩) body.length c, .slice (some ⟨g5, 0, none⟩) 4 4] 29
    rw [World.size_alloc] at oS
    have hCat := concat_as (w := (w5.alloc (.cells #[.int .u8 84, .int .u8 82, .int .u8 77, .int .u8 1] 5 (4, 5))).alloc (.cells #[.slice (some ⟨w5.heap.size, 0, none⟩) 4 4, .slice (some ⟨g3, 0, none⟩) 4 4, .slice (some ⟨gb, 0, none⟩) body.length c, .slice (some ⟨g5, 0, none⟩) 4 4] 29)) [(.slice (some ⟨w5.heap.size, 0, none⟩) 4 4, [84, 82, 77, 1]), (.slice (some ⟨g3, 0, none⟩) 4 4, fixN body.length 4), (.slice (some ⟨gb, 0, none⟩) body.length c, body), (.slice (some ⟨g5, 0, none⟩) 4 4, fixN (Q01.sumN body) 4)] 4 rfl (by omega) oS (by
      intro y hy
      simp at hy
      rcases hy with rfl | rfl | rfl | rfl
      · exact ⟨_, _, rfl, lm, fun e => by cases e⟩
      · exact ⟨_, _, by rw [show (fixN body.length 4).length = 4 from fixN_length _ _], l3.below B7, fun e => by cases e⟩
      · exact ⟨_, _, rfl, l2.below B7, fun e => by cases e⟩
      · exact ⟨_, _, by rw [show (fixN (Q01.sumN body) 4).length = 4 from fixN_length _ _], l5.below B7, fun e => by cases e⟩) (body.length + 12) (by simp [catN, fixN_length]; omega) (by omega) (by have := HLn.out; omega)
    have hcat : catN [(.slice (some ⟨w5.heap.size, 0, none⟩) 4 4, [84, 82, 77, 1]), (.slice (some ⟨g3, 0, none⟩) 4 4, fixN body.length 4), (.slice (some ⟨gb, 0, none⟩) body.length c, body), (.slice (some ⟨g5, 0, none⟩) 4 4, fixN (Q01.sumN body) 4)] ([(.slice (some ⟨w5.heap.size, 0, none⟩) 4 4, [84, 82, 77, 1]), (.slice (some ⟨g3, 0, none⟩) 4 4, fixN body.length 4), (.slice (some ⟨gb, 0, none⟩) body.length c, body), (.slice (some ⟨g5, 0, none⟩) 4 4, fixN (Q01.sumN body) 4)] : List Pt).length = imgB body := by
      unfold catN imgB; simp
    rw [hcat] at hCat
    have HS5 : Hid (w.heap.size ≤ w5.heap.size) := hb.size
    replace hb := hb.trans (B7.mono hb.size)
    clear l2 l3 l5 lm r2 r2b r3 r5 b3 b5 B6 hcat
    go_wp2_with fail
    refine Calls.mono hCat ?_
    rintro e w8 ⟨aR, cR, rfl, rR, nR, bR⟩
    have HRR : Hid (EncR w m (.returned (.tuple #[.slice aR (body.length + 12) cR, .int .i64 0])) w8) := by
      refine ⟨⟨aR, body.length + 12, cR, by rw [HCE.out]; rfl, fun _ => ⟨by rw [HBO.out, imgB_length], by rw [HBO.out]; exact rR, fun b q => Nat.le_trans HS5.out (Nat.le_trans B7.size (nR b q))⟩, fun q => absurd HCE.out q⟩, hb.trans (bR.mono hb.size)⟩
    clear hCat rR bR hb B7 oS nR
    go_wp2
    rw [← HR.out]
    exact HRR.out
  · have hd : (((chkE m : Nat) : Int) == 0) = false := by simp; omega
    have HQ : Hid (chkE m ≠ 0) := h0
    have hz := q2 h0
    clear q1 q2 HLE h0
    cases hz
    go_wp2
    rw [← HR.out]
    exact ⟨⟨none, 0, 0, rfl, fun q => absurd q HQ.out, fun _ => rfl⟩, hb⟩
end Go.Proofs.YtmmbdpdpkkikjaaGreat
namespace Go.Proofs.YtmmbdpdpkkikjaaGreat
open Go.RowKit
set_option linter.unusedVariables false

theorem imgB_inj {a b : List Nat} (h : imgB a = imgB b) : a = b := by
  have hl := congrArg List.length h
  rw [imgB_length, imgB_length] at hl
  have e : a.length = b.length := by omega
  unfold imgB at h
  have h1 := (List.append_inj h rfl).2
  have h2 := (List.append_inj h1 (by rw [fixN_length, fixN_length])).2
  exact (List.append_inj h2 e).1
theorem imgB_byte {a : List Nat} (h : ∀ c ∈ a, c < 256) : ∀ c ∈ imgB a, c < 256 := by
  intro c hc
  unfold imgB at hc
  rcases List.mem_append.1 hc with hc | hc
  · simp at hc; omega
  rcases List.mem_append.1 hc with hc | hc
  · exact fixN_byte _ _ c hc
  rcases List.mem_append.1 hc with hc | hc
  · exact h c hc
  · exact fixN_byte _ _ c hc
theorem parts_of {m : MoP} (h : chkE m = 0) : partsE m = 0 := by
  unfold chkE at h
  split at h
  · exact h
  · rename_i h1; omega
theorem img_le {m : MoP} (h : chkE m = 0) : (imgB (moB m.mo)).length ≤ 2097152 := by
  rw [imgB_length]
  unfold chkE at h
  split at h
  · rename_i h1; exact absurd h h1
  · split at h
    · cases h
    · rename_i h2; unfold room at h2; omega
theorem strN_iff {a b : List Nat} (ha : ∀ c ∈ a, c < 256) (hb : ∀ c ∈ b, c < 256) : ((strN a).toList == (strN b).toList) = true ↔ a = b := by
  rw [ba_eq, decide_eq_true_eq]
  constructor
  · intro h
    rw [← byS_strN a ha, ← byS_strN b hb, h]
  · intro h; rw [h]
theorem own3c {w : World} {g : Nat} {a0 a1 a2 : Value} {t : TypeId} (h : Own w g #[a0, a1, a2] t) : (∀ t : After w, t.1.cell? ⟨g, 0, none⟩ = some a0) ∧ (∀ t : After w, t.1.cell? ⟨g, 1, none⟩ = some a1) ∧ (∀ t : After w, t.1.cell? ⟨g, 2, none⟩ = some a2) :=
  ⟨fun t => (h.below t.2).cell 0, fun t => (h.below t.2).cell 1, fun t => (h.below t.2).cell 2⟩
end Go.Proofs.YtmmbdpdpkkikjaaGreat
namespace Go.Proofs.YtmmbdpdpkkikjaaGreat
open Go.RowKit
set_option linter.unusedVariables false

/-! ### What Check tells hangs on what a module holds, not on where it lies -/
theorem getD_mapz {α β : Type} (f : α → β) (l : List α) (i : Nat) (z : α) : (l.map f).getD i (f z) = f (l.getD i z) := by
  simp only [List.getD_eq_getElem?_getD, List.getElem?_map]
  cases l[i]? <;> rfl
theorem fnd_t (tys : List TyP) (x : Int) (ks : List Nat) : (fnd tys x ks).map TyP.t = (if x < 16 ∨ ((tys.map TyP.t).length : Int) ≤ x - 16 then none else if ((tys.map TyP.t).getD (x - 16).toNat zTy).kind ∈ ks then some ((tys.map TyP.t).getD (x - 16).toNat zTy) else none) := by
  have h : (tys.map TyP.t).getD (x - 16).toNat zTy = (tys.getD (x - 16).toNat zTP).t := getD_mapz TyP.t tys _ zTP
  rw [h, List.length_map]
  unfold fnd
  by_cases h1 : x < 16 ∨ (tys.length : Int) ≤ x - 16
  · rw [if_pos h1, if_pos h1]; rfl
  · rw [if_neg h1, if_neg h1]
    by_cases h2 : (tys.getD (x - 16).toNat zTP).t.kind ∈ ks
    · rw [if_pos h2, if_pos h2]; rfl
    · rw [if_neg h2, if_neg h2]; rfl
theorem fnd_eq {a b : List TyP} (h : a.map TyP.t = b.map TyP.t) (x : Int) (ks : List Nat) : (fnd a x ks).map TyP.t = (fnd b x ks).map TyP.t := by rw [fnd_t, fnd_t, h]
theorem recM_eq {a b : List TyP} (h : a.map TyP.t = b.map TyP.t) (op : Nat) (x y : Int) : recM a op x y = recM b op x y := by
  have e := fnd_eq h x [6]
  unfold recM
  cases ha : fnd a x [6] with
  | none =>
    cases hb : fnd b x [6] with
    | none => rfl
    | some t => rw [ha, hb] at e; cases e
  | some s =>
    cases hb : fnd b x [6] with
    | none => rw [ha, hb] at e; cases e
    | some t =>
      rw [ha, hb] at e
      have e2 : s.t = t.t := Option.some.inj e
      show recT s op x y = recT t op x y
      unfold recT
      rw [e2]
theorem arrM_eq {a b : List TyP} (h : a.map TyP.t = b.map TyP.t) (op : Nat) (x : Int) : arrM a op x = arrM b op x := by
  have e := fnd_eq h x (ksOf op)
  unfold arrM
  cases ha : fnd a x (ksOf op) with
  | none =>
    cases hb : fnd b x (ksOf op) with
    | none => rfl
    | some t => rw [ha, hb] at e; cases e
  | some s =>
    cases hb : fnd b x (ksOf op) with
    | none => rw [ha, hb] at e; cases e
    | some t =>
      rw [ha, hb] at e
      have e2 : s.t = t.t := Option.some.inj e
      show arrT op x s.t.elem = arrT op x t.t.elem
      rw [e2]
theorem callM_eq {a b : List RoP} (h : a.map RoP.r = b.map RoP.r) (x : Int) : callM a x = callM b x := by
  have hl : a.length = b.length := by simpa using congrArg List.length h
  have h1 : (a.getD x.toNat zRP).r = (b.getD x.toNat zRP).r := by
    rw [← getD_mapz RoP.r a _ zRP, ← getD_mapz RoP.r b _ zRP, h]
  unfold callM
  rw [hl, h1]
theorem insMay_eq {A B : MoP} (h : A.mo = B.mo) : insMay A = insMay B := by
  have ht : A.tys.map TyP.t = B.tys.map TyP.t := congrArg Mo.types h
  have hx : A.txs = B.txs := congrArg Mo.texts h
  have hf : A.fns.map RoP.r = B.fns.map RoP.r := congrArg Mo.funcs h
  funext lo x
  unfold insMay takM effM
  rw [hx, callM_eq hf, recM_eq ht, arrM_eq ht]
theorem fE_map {α β : Type} (f : β → Nat) (g : α → β) : ∀ l : List α, fE (fun x => f (g x)) l = fE f (l.map g) := by
  intro l
  induction l with
  | nil => rfl
  | cons x r ih => unfold fE; rw [ih]; rfl
theorem chkE_mo {A B : MoP} (h : A.mo = B.mo) : chkE A = chkE B := by
  have ht : A.tys.map TyP.t = B.tys.map TyP.t := congrArg Mo.types h
  have hx : A.txs = B.txs := congrArg Mo.texts h
  have hf : A.fns.map RoP.r = B.fns.map RoP.r := congrArg Mo.funcs h
  have n1 : A.tys.length = B.tys.length := by simpa using congrArg List.length ht
  have n3 : A.fns.length = B.fns.length := by simpa using congrArg List.length hf
  have hr : roErr A = roErr B := by funext r; unfold roErr roMay codeMay; rw [n1, insMay_eq h]
  have p : partsE A = partsE B := by
    unfold partsE
    rw [fE_map (tyErr A.tys.length) TyP.t, fE_map (roErr A) RoP.r, fE_map (tyErr B.tys.length) TyP.t, fE_map (roErr B) RoP.r, ht, hf, hx, n1, n3, hr]
  unfold chkE
  rw [p, h]
/-- A module that lies nowhere. -/
def moP (m : Mo) : MoP := ⟨m.types.map fun t => ⟨t, none, 0⟩, none, 0, m.texts, none, 0, m.funcs.map fun r => ⟨r, none, 0, none, 0, none, 0⟩, none, 0⟩
theorem moP_mo (m : Mo) : (moP m).mo = m := by
  obtain ⟨a, b, c⟩ := m
  have e1 : (a.map fun t => (⟨t, none, 0⟩ : TyP)).map TyP.t = a := by rw [List.map_map]; exact List.map_id a
  have e2 : (c.map fun r => (⟨r, none, 0, none, 0, none, 0⟩ : RoP)).map RoP.r = c := by rw [List.map_map]; exact List.map_id c
  show (⟨_, _, _⟩ : Mo) = _
  simp only [moP]
  rw [e1, e2]
def chkM (m : Mo) : Nat := chkE (moP m)
theorem chkM_mo (A : MoP) : chkM A.mo = chkE A := chkE_mo (moP_mo _)

/-! ### What Load answers -/
def ldR (xs : List Nat) : (Nat × Nat) ⊕ Mo := ldK chkM xs

/-! ### The mark -/
theorem mrkF_none (xs : List Nat) : ∀ g k, mrkF xs g k = none ↔ ∀ j, k ≤ j → j < k + g → xs.getD j 0 = mrkL.getD j 0 := by
  intro g
  induction g with
  | zero => intro k; exact ⟨fun _ j h1 h2 => by omega, fun _ => rfl⟩
  | succ g ih =>
    intro k
    unfold mrkF
    by_cases h : xs.getD k 0 = mrkL.getD k 0
    · rw [if_pos h, ih]
      exact ⟨fun q j h1 h2 => by
        by_cases e : j = k
        · rw [e]; exact h
        · exact q j (by omega) (by omega), fun q j h1 h2 => q j (by omega) (by omega)⟩
    · rw [if_neg h]
      exact ⟨fun q => (by cases q), fun q => absurd (q k (Nat.le_refl _) (by omega)) h⟩
theorem mrkR_none (xs : List Nat) : mrkR xs = none ↔ ∀ j, j < min 4 xs.length → xs.getD j 0 = mrkL.getD j 0 := by
  unfold mrkR
  rw [mrkF_none]
  exact ⟨fun q j h => q j (Nat.zero_le _) (by omega), fun q j _ h => q j (by omega)⟩
theorem mrkF_le (xs : List Nat) : ∀ g k i, mrkF xs g k = some i → i < k + g := by
  intro g
  induction g with
  | zero => intro k i h; cases h
  | succ g ih =>
    intro k i h
    unfold mrkF at h
    split at h
    · have := ih _ _ h; omega
    · cases h; omega
theorem getD_take {xs : List Nat} {i j : Nat} (h : j < i) : (xs.take i).getD j 0 = xs.getD j 0 := by
  simp only [List.getD_eq_getElem?_getD]
  rw [List.getElem?_take_of_lt h]
theorem getD_app {xs ys : List Nat} {j : Nat} (h : j < xs.length) : (xs ++ ys).getD j 0 = xs.getD j 0 := by
  simp only [List.getD_eq_getElem?_getD]
  rw [List.getElem?_append_left h]
theorem img_mrk (b : List Nat) (j : Nat) (h : j < 4) : (imgB b).getD j 0 = mrkL.getD j 0 := by
  have e : imgB b = mrkL ++ (fixN b.length 4 ++ (b ++ fixN (Q01.sumN b) 4)) := rfl
  rw [e, getD_app (by exact h)]

/-! ### Fixed forms, read and written -/
theorem fixN_cons (n k : Nat) : fixN n (k + 1) = n % 256 :: fixN (n / 256) k := by
  unfold fixN
  rw [List.range_succ_eq_map, List.map_cons, List.map_map]
  refine congr (congrArg _ (by simp)) (List.map_congr_left fun i _ => ?_)
  show n / 256 ^ (i + 1) % 256 = _
  rw [Nat.pow_succ', Nat.div_div_eq_div_mul]
theorem fixN_widQ : ∀ l : List Nat, (∀ c ∈ l, c < 256) → fixN (Q01.wid l) l.length = l := by
  intro l
  induction l with
  | nil => intro _; rfl
  | cons c r ih =>
    intro h
    have hc := h c (by simp)
    rw [List.length_cons, fixN_cons]
    show (c + 256 * Q01.wid r) % 256 :: fixN ((c + 256 * Q01.wid r) / 256) r.length = _
    rw [show (c + 256 * Q01.wid r) % 256 = c by omega, show (c + 256 * Q01.wid r) / 256 = Q01.wid r by omega, ih fun d hd => h d (by simp [hd])]
theorem wid_fix4 (n : Nat) (h : n < 4294967296) : Q01.wid (fixN n 4) = n := by
  have := Q01.wid_fixN n 4
  rw [show fixN n 4 = Q01.fixN n 4 from rfl, this]
  exact Nat.mod_eq_of_lt (by omega)

/-! ### The parts of an image -/
theorem img_drop4 (b : List Nat) : (imgB b).drop 4 = fixN b.length 4 ++ (b ++ fixN (Q01.sumN b) 4) := rfl
theorem img_drop8 (b : List Nat) : (imgB b).drop 8 = b ++ fixN (Q01.sumN b) 4 := by
  have := img_drop4 b
  rw [show 8 = 4 + 4 from rfl, ← List.drop_drop, this]
  exact List.drop_left' (fixN_length _ _)
theorem img_dropE (b : List Nat) : (imgB b).drop (b.length + 8) = fixN (Q01.sumN b) 4 := by
  rw [Nat.add_comm, ← List.drop_drop, img_drop8]
  exact List.drop_left
theorem img_body (b : List Nat) : ((imgB b).take (b.length + 8)).drop 8 = b := by
  rw [List.drop_take, img_drop8, show b.length + 8 - 8 = b.length by omega]
  exact List.take_left
theorem bodyN_img (b : List Nat) (h : b.length < 4294967296) : bodyN (imgB b) = b.length := by
  unfold bodyN
  rw [img_drop4, List.take_left' (fixN_length _ _)]
  exact wid_fix4 _ h
theorem head_img (b : List Nat) (h : b.length < 4294967296) : headR (imgB b) = .inr (b.length + 8) := by
  have hm : mrkR (imgB b) = none := (mrkR_none _).2 fun j hj => img_mrk b j (by omega)
  have hl := imgB_length b
  unfold headR
  rw [hm, bodyN_img b h, hl]
  simp only
  rw [if_neg (by omega), if_neg (by omega), if_neg (by omega), img_dropE, img_body, List.take_of_length_le (by rw [fixN_length]; omega), wid_fix4 _ (sumN_lt _), if_pos rfl]
theorem head_short (b : List Nat) (h : b.length < 4294967296) (i : Nat) (hi : i < (imgB b).length) : headR ((imgB b).take i) = .inl (i, 10) := by
  have hl := imgB_length b
  have hlt : ((imgB b).take i).length = i := by rw [List.length_take]; omega
  have hm : mrkR ((imgB b).take i) = none := (mrkR_none _).2 fun j hj => by rw [hlt] at hj; rw [getD_take (by omega)]; exact img_mrk b j (by omega)
  unfold headR
  rw [hm, hlt]
  simp only
  by_cases h8 : i < 8
  · rw [if_pos h8]
  · rw [if_neg h8]
    have hn : bodyN ((imgB b).take i) = b.length := by
      rw [← bodyN_img b h]
      unfold bodyN
      rw [List.drop_take, List.take_take, show min 4 (i - 4) = 4 by omega]
    rw [hn, if_pos (by omega)]
theorem head_long (b : List Nat) (h : b.length < 4294967296) (c : Nat) : headR (imgB b ++ [c]) = .inl ((imgB b).length, 130) := by
  have hl := imgB_length b
  have hla : (imgB b ++ [c]).length = b.length + 13 := by rw [List.length_append, hl]; rfl
  have hm : mrkR (imgB b ++ [c]) = none := (mrkR_none _).2 fun j hj => by rw [hla] at hj; rw [getD_app (by omega)]; exact img_mrk b j (by omega)
  have hn : bodyN (imgB b ++ [c]) = b.length := by
    rw [← bodyN_img b h]
    unfold bodyN
    rw [List.drop_append_of_le_length (by omega), List.take_append_of_le_length (by rw [List.length_drop]; omega)]
  unfold headR
  rw [hm, hla, hn]
  simp only
  rw [if_neg (by omega), if_neg (by omega), if_pos (by omega), hl]
/-- What has a head is an image. -/
theorem head_inv {xs : List Nat} (hb : ∀ c ∈ xs, c < 256) {E : Nat} (h : headR xs = .inr E) : ∃ b, xs = imgB b ∧ E = b.length + 8 ∧ (xs.take E).drop 8 = b := by
  unfold headR at h
  cases hm : mrkR xs with
  | some i => rw [hm] at h; cases h
  | none =>
    rw [hm] at h
    simp only at h
    split at h
    · cases h
    · split at h
      · cases h
      · split at h
        · cases h
        · split at h
          · rename_i h1 h2 h3 h4
            cases h
            have hl : xs.length = bodyN xs + 12 := by omega
            have hbl : ((xs.take (bodyN xs + 8)).drop 8).length = bodyN xs := by rw [List.length_drop, List.length_take]; omega
            refine ⟨(xs.take (bodyN xs + 8)).drop 8, ?_, by rw [hbl], rfl⟩
            have e1 : xs.take 4 = mrkL := by
              have hq := (mrkR_none xs).1 hm
              apply List.ext_getElem?
              intro j
              by_cases hj : j < 4
              · rw [List.getElem?_take_of_lt hj]
                have := hq j (by omega)
                simp only [List.getD_eq_getElem?_getD] at this
                rw [List.getElem?_eq_getElem (by omega), List.getElem?_eq_getElem (by exact hj)] at this ⊢
                simpa using this
              · rw [List.getElem?_eq_none (by rw [List.length_take]; omega), List.getElem?_eq_none (by show 4 ≤ j; omega)]
            have e2 : (xs.drop 4).take 4 = fixN (bodyN xs) 4 := by
              have hl4 : ((xs.drop 4).take 4).length = 4 := by rw [List.length_take, List.length_drop]; omega
              have := fixN_widQ ((xs.drop 4).take 4) fun c hc => hb c (mem_part hc)
              rw [hl4] at this
              exact this.symm
            have e3 : (xs.drop (bodyN xs + 8)).take 4 = fixN (Q01.sumN ((xs.take (bodyN xs + 8)).drop 8)) 4 := by
              have hl4 : ((xs.drop (bodyN xs + 8)).take 4).length = 4 := by rw [List.length_take, List.length_drop]; omega
              have := fixN_widQ ((xs.drop (bodyN xs + 8)).take 4) fun c hc => hb c (mem_part hc)
              rw [hl4, h4] at this
              exact this.symm
            have e4 : (xs.drop (bodyN xs + 8)).take 4 = xs.drop (bodyN xs + 8) := List.take_of_length_le (by rw [List.length_drop]; omega)
            have e5 : (xs.take (bodyN xs + 8)).drop 8 = (xs.drop 8).take (bodyN xs) := by rw [List.drop_take]; congr 1
            have e6 : xs.drop (bodyN xs + 8) = (xs.drop 8).drop (bodyN xs) := by rw [List.drop_drop, Nat.add_comm]
            show xs = mrkL ++ (fixN ((xs.take (bodyN xs + 8)).drop 8).length 4 ++ ((xs.take (bodyN xs + 8)).drop 8 ++ fixN (Q01.sumN ((xs.take (bodyN xs + 8)).drop 8)) 4))
            rw [hbl, ← e3, e4, e6, e5, List.take_append_drop, ← e2, ← e1]
            have e7 : xs.drop 8 = (xs.drop 4).drop 4 := by rw [List.drop_drop]
            rw [e7, List.take_append_drop, List.take_append_drop]
          · cases h
/-! ### There and back, and forth -/
theorem ld_back {A : MoP} (hc : chkE A = 0) : ldR (imgB (moB A.mo)) = .inr A.mo := by
  have hle := img_le hc
  have hl := imgB_length (moB A.mo)
  have hb : ((imgB (moB A.mo)).take ((moB A.mo).length + 8)).drop 8 = moB A.mo := img_body _
  have hlt : ((imgB (moB A.mo)).take ((moB A.mo).length + 8)).length = (moB A.mo).length + 8 := by rw [List.length_take]; omega
  have hr := enc_mo A.mo (fit_of (parts_of hc)) _ 8 (by omega) hb
  unfold ldR ldK
  rw [if_neg (by omega), head_img _ (by omega)]
  simp only
  rw [hr]
  simp only
  rw [chkM_mo, hc, if_pos rfl]
theorem ld_once {xs : List Nat} (hb : ∀ c ∈ xs, c < 256) {m : Mo} (h : ldR xs = .inr m) : xs = imgB (moB m) ∧ chkM m = 0 ∧ MoFit m ∧ xs.length ≤ 2097152 := by
  unfold ldR ldK at h
  split at h
  · cases h
  · rename_i hle
    cases hh : headR xs with
    | inl x => rw [hh] at h; cases h
    | inr E =>
      rw [hh] at h
      simp only at h
      obtain ⟨b, e1, e2, e3⟩ := head_inv hb hh
      cases hr : rMo (xs.take E) 8 with
      | inl x => rw [hr] at h; cases h
      | inr y =>
        obtain ⟨m', q⟩ := y
        rw [hr] at h
        simp only at h
        split at h
        · rename_i hc
          cases h
          have hl : xs.length = b.length + 12 := by rw [e1, imgB_length]
          have hd := dec_mo (xs.take E) 8 m q (fun c hc => hb c (List.mem_of_mem_take hc)) (by rw [List.length_take]; omega) hr
          have hb2 : moB m = b := by rw [hd.2, e3]
          exact ⟨by rw [hb2]; exact e1, hc, gives_mo _ _ _ _ hr, by omega⟩
        · cases h
/-! ### Where faults stand -/
def In' {α : Type} (f : List Nat → Nat → Rs α) : Prop := ∀ xs p, (∀ c ∈ xs, c < 256) → p ≤ xs.length → (∀ x, f xs p = .inl x → x.1 ≤ xs.length ∧ x.2 ≠ 0) ∧ ∀ y, f xs p = .inr y → y.2 ≤ xs.length
theorem In'.of {α : Type} {f : List Nat → Nat → Rs α} {u : α → List Nat} (hd : Dec f u) (h : ∀ xs p x, p ≤ xs.length → (∀ c ∈ xs, c < 256) → f xs p = .inl x → x.1 ≤ xs.length ∧ x.2 ≠ 0) : In' f := fun xs p hb hp => ⟨fun x hx => h xs p x hp hb hx, fun y hy => (hd xs p y.1 y.2 hb hp hy).2.1⟩
theorem In'.then {α β : Type} {f : List Nat → Nat → Rs α} {g : α → List Nat → Nat → Rs β} (h : In' f) (k : ∀ a, In' (g a)) : In' (fun xs p => (f xs p).bind fun a q => g a xs q) := fun xs p hb hp => by
  have h1 := h xs p hb hp
  simp only
  cases hf : f xs p with
  | inl x => exact ⟨fun y hy => by cases hy; exact h1.1 _ hf, fun y hy => by cases hy⟩
  | inr y => exact k y.1 xs y.2 hb (h1.2 y hf)
theorem In'.ret {α : Type} (a : α) : In' (fun _ q => (.inr (a, q) : Rs α)) := fun xs p _ hp => ⟨fun x hx => (by cases hx), fun y hy => by cases hy; exact hp⟩
theorem in_num : In' rNum := In'.of dec_num (fun xs p x hp hb h => by
  unfold rNum at h
  split at h
  · cases h; exact ⟨Nat.le_refl _, by simp⟩
  · split at h
    · cases h; rename_i h1 h2; exact ⟨hp, h2⟩
    · split at h
      · cases h; exact ⟨hp, by simp⟩
      · cases h)
theorem in_count (lim : Nat) : In' (rCount lim) := fun xs p hb hp => by
  have h1 := in_num xs p hb hp
  unfold rCount
  cases hf : rNum xs p with
  | inl x => exact ⟨fun y hy => by cases hy; exact h1.1 _ hf, fun y hy => by cases hy⟩
  | inr y =>
    have hy := h1.2 y hf
    show (∀ x, (if (lim : Int) < y.1 then Sum.inl (p, 3) else Sum.inr (y.1.toNat, y.2) : Rs Nat) = .inl x → _) ∧ ∀ z, (if (lim : Int) < y.1 then Sum.inl (p, 3) else Sum.inr (y.1.toNat, y.2) : Rs Nat) = .inr z → _
    split
    · exact ⟨fun x hx => by cases hx; exact ⟨hp, by simp⟩, fun z hz => by cases hz⟩
    · exact ⟨fun x hx => (by cases hx), fun z hz => by cases hz; exact hy⟩
theorem in_bytes (n : Nat) : In' (rBytes n) := fun xs p hb hp => by
  unfold rBytes
  split
  · exact ⟨fun x hx => by cases hx; exact ⟨Nat.le_refl _, by simp⟩, fun z hz => by cases hz⟩
  · exact ⟨fun x hx => (by cases hx), fun z hz => by cases hz; show p + n ≤ _; omega⟩
theorem in_text : In' rText := (in_count 65536).then fun n => (in_bytes n).then fun b => In'.ret _
theorem in_code : In' rCode := (in_count 65536).then fun n => in_bytes n
theorem in_sev {α : Type} {f : List Nat → Nat → Rs α} (h : In' f) : ∀ n, In' (fun xs p => rSev (f xs) n p) := by
  intro n
  induction n with
  | zero => exact In'.ret _
  | succ n ih => exact h.then (g := fun a xs q => (rSev (f xs) n q).bind fun l r => .inr (a :: l, r)) fun a => ih.then (g := fun l xs r => .inr (a :: l, r)) fun l => In'.ret _
theorem in_list {α : Type} {f : List Nat → Nat → Rs α} (lim : Nat) (h : In' f) : In' (rList lim f) := (in_count lim).then (g := fun n xs q => rSev (f xs) n q) fun n => in_sev h n
theorem in_fl : In' rFl := in_text.then (g := fun a xs q => (rNum xs q).bind fun t r => .inr ((⟨a, t⟩ : Fl), r)) fun a => in_num.then fun t => In'.ret _
theorem in_kind : In' rKind := fun xs p hb hp => by
  unfold rKind
  split
  · exact ⟨fun x hx => by cases hx; exact ⟨Nat.le_refl _, by simp⟩, fun z hz => by cases hz⟩
  · split
    · exact ⟨fun x hx => (by cases hx), fun z hz => by cases hz; show p + 1 ≤ _; omega⟩
    · exact ⟨fun x hx => by cases hx; exact ⟨hp, by simp⟩, fun z hz => by cases hz⟩
theorem in_ite {α : Type} {c : Prop} [Decidable c] {f g : List Nat → Nat → Rs α} (hf : In' f) (hg : In' g) : In' (fun xs p => if c then f xs p else g xs p) := by
  by_cases h : c
  · simpa only [if_pos h] using hf
  · simpa only [if_neg h] using hg
theorem in_ty : In' rTy := in_kind.then (g := fun k xs q => if k = 6 then (rText xs q).bind fun a q => (rList 32 rFl xs q).bind fun l r => .inr ((⟨6, a, l, 0, 0⟩ : Ty), r)
  else if k = 7 then (rNum xs q).bind fun e q => (rNum xs q).bind fun n r => .inr ((⟨7, ⟨#[]⟩, [], e, n⟩ : Ty), r)
  else (rNum xs q).bind fun e r => .inr ((⟨8, ⟨#[]⟩, [], e, 0⟩ : Ty), r)) fun k => in_ite (in_text.then (g := fun a xs q => (rList 32 rFl xs q).bind fun l r => .inr ((⟨6, a, l, 0, 0⟩ : Ty), r)) fun a => (in_list 32 in_fl).then fun l => In'.ret _) (in_ite (in_num.then (g := fun e xs q => (rNum xs q).bind fun n r => .inr ((⟨7, ⟨#[]⟩, [], e, n⟩ : Ty), r)) fun e => in_num.then fun n => In'.ret _) (in_num.then fun e => In'.ret _))
theorem in_ro : In' rRo :=
  in_text.then (g := fun a xs q => (rList 32 rNum xs q).bind fun ps q => (rList 8 rNum xs q).bind fun rs q => (rNum xs q).bind fun l q => (rNum xs q).bind fun s q => (rCode xs q).bind fun c r => .inr ((⟨a, ps, rs, l, s, c⟩ : Ro), r)) fun a =>
  (in_list 32 in_num).then (g := fun ps xs q => (rList 8 rNum xs q).bind fun rs q => (rNum xs q).bind fun l q => (rNum xs q).bind fun s q => (rCode xs q).bind fun c r => .inr ((⟨a, ps, rs, l, s, c⟩ : Ro), r)) fun ps =>
  (in_list 8 in_num).then (g := fun rs xs q => (rNum xs q).bind fun l q => (rNum xs q).bind fun s q => (rCode xs q).bind fun c r => .inr ((⟨a, ps, rs, l, s, c⟩ : Ro), r)) fun rs =>
  in_num.then (g := fun l xs q => (rNum xs q).bind fun s q => (rCode xs q).bind fun c r => .inr ((⟨a, ps, rs, l, s, c⟩ : Ro), r)) fun l =>
  in_num.then (g := fun s xs q => (rCode xs q).bind fun c r => .inr ((⟨a, ps, rs, l, s, c⟩ : Ro), r)) fun s => in_code.then fun c => In'.ret _
theorem in_mo : In' rMo :=
  (in_list 256 in_ty).then (g := fun ts xs q => (rList 32768 rText xs q).bind fun ss q => (rList 256 rRo xs q).bind fun fs q => if q < xs.length then .inl (q, 130) else .inr ((⟨ts, ss, fs⟩ : Mo), q)) fun ts =>
  (in_list 32768 in_text).then (g := fun ss xs q => (rList 256 rRo xs q).bind fun fs q => if q < xs.length then .inl (q, 130) else .inr ((⟨ts, ss, fs⟩ : Mo), q)) fun ss =>
  (in_list 256 in_ro).then (g := fun fs xs q => if q < xs.length then .inl (q, 130) else .inr ((⟨ts, ss, fs⟩ : Mo), q)) fun fs => fun xs p hb hp => by
    simp only
    split
    · exact ⟨fun x hx => by cases hx; exact ⟨hp, by simp⟩, fun z hz => by cases hz⟩
    · exact ⟨fun x hx => (by cases hx), fun z hz => by cases hz; exact hp⟩
theorem head_in {xs : List Nat} {x : Nat × Nat} (h : headR xs = .inl x) : x.1 ≤ xs.length ∧ x.2 ≠ 0 := by
  unfold headR at h
  cases hm : mrkR xs with
  | some i =>
    rw [hm] at h
    cases h
    have := mrkF_le xs _ _ _ hm
    exact ⟨by show i ≤ _; omega, by simp⟩
  | none =>
    rw [hm] at h
    simp only at h
    split at h
    · cases h; exact ⟨Nat.le_refl _, by simp⟩
    · split at h
      · cases h; exact ⟨Nat.le_refl _, by simp⟩
      · split at h
        · cases h; exact ⟨by simp only; omega, by simp⟩
        · split at h
          · cases h
          · cases h; exact ⟨by simp only; omega, by simp⟩
theorem ld_in {xs : List Nat} (hb : ∀ c ∈ xs, c < 256) {x : Nat × Nat} (h : ldR xs = .inl x) : x.1 ≤ xs.length ∧ x.2 ≠ 0 := by
  unfold ldR ldK at h
  split at h
  · cases h; exact ⟨Nat.zero_le _, by simp⟩
  · cases hh : headR xs with
    | inl y => rw [hh] at h; cases h; exact head_in hh
    | inr E =>
      rw [hh] at h
      simp only at h
      obtain ⟨b, e1, e2, e3⟩ := head_inv hb hh
      have hl : xs.length = b.length + 12 := by rw [e1, imgB_length]
      cases hr : rMo (xs.take E) 8 with
      | inl y =>
        rw [hr] at h
        cases h
        have := (in_mo (xs.take E) 8 (fun c hc => hb c (List.mem_of_mem_take hc)) (by rw [List.length_take]; omega)).1 _ hr
        rw [List.length_take] at this
        exact ⟨by omega, this.2⟩
      | inr y =>
        rw [hr] at h
        simp only at h
        split at h
        · cases h
        · rename_i hc
          cases h
          exact ⟨Nat.zero_le _, hc⟩
end Go.Proofs.YtmmbdpdpkkikjaaGreat
namespace Go.Proofs.YtmmbdpdpkkikjaaGreat
open Go.RowKit
set_option linter.unusedVariables false

/-! ### Check -/
set_option maxHeartbeats 2000000 in
set_option maxRecDepth 100000 in
theorem check_as {w : World} {m : MoP} (hm : MoIn w m) (hs : Small m 100000) : Calls Tryz.prog 12 #[.agg m.cs] w fun e w' => e = .returned (.int .i64 (chkE m : Nat)) ∧ Below w.heap.size w w' := by
  have hb := new_below w (.cells m.cs 26)
  have o1 := Own.new w m.cs 26
  have hC := bodyOf_as (hm.below hb) hs
  unfold MoP.cs at *
  clear hm hs
  generalize m.tys.length = n1 at *
  generalize m.txs.length = n2 at *
  generalize m.fns.length = n3 at *
  go_enter Tryz.func12, Tryz.ntmps12
  go_upto_region 1 with fail
  generalize w.alloc (.cells #[.slice m.ta n1 m.tc, .slice m.sa n2 m.sc, .slice m.fa n3 m.fc] 26) = w1 at *
  obtain ⟨x0, x1, x2, xf⟩ := own3 o1
  go_wp2_with fail
  refine hC.mono ?_
  rintro e w2 ⟨⟨a, L, c, rfl, -, -⟩, hb2⟩
  replace hb := hb.trans (hb2.mono hb.size)
  go_wp2
  go_ret
  exact ⟨rfl, hb⟩
theorem small_fit {A : MoP} (h : MoFit A.mo) : Small A 100000 := by
  have e1 : A.mo.types.length = A.tys.length := by simp [MoP.mo]
  have e3 : A.mo.funcs.length = A.fns.length := by simp [MoP.mo]
  have h1 := h.tl
  have h2 := h.xl
  have h3 := h.fl
  rw [e1] at h1
  rw [e3] at h3
  have h2' : A.txs.length ≤ 32768 := h2
  refine ⟨by omega, by omega, by omega, fun x hx => ?_, fun x hx => ?_⟩
  · have hm : x.t ∈ A.mo.types := List.mem_map.2 ⟨x, hx, rfl⟩
    rcases h.ty _ hm with ⟨_, _, q, _⟩ | ⟨_, _, q, _⟩ | ⟨_, _, q, _⟩
    · omega
    · rw [q]; decide
    · rw [q]; decide
  · have hm : x.r ∈ A.mo.funcs := List.mem_map.2 ⟨x, hx, rfl⟩
    obtain ⟨_, q1, _, q2, _, _, _, q3⟩ := h.ro _ hm
    exact ⟨by omega, by omega, by omega⟩
theorem load_as {w : World} {a : Option Addr} {c : Nat} {xs : List Nat} (hl : Lies w a xs) (hc : xs.length ≤ c) (hcm : c ≤ 9223372036854775807) : Calls Tryz.prog 13 #[.slice a xs.length c] w (LdKRet chkM w xs) := by
  by_cases h1 : 2097152 < xs.length
  · exact load_long chkM h1 (by omega)
  · by_cases h2 : xs = []
    · subst h2; exact load_none chkM
    · exact load_some chkM hl h2 (by omega) hc hcm (fun A W hA hf => by
        have := check_as hA (small_fit hf)
        rw [← chkM_mo] at this
        exact this)
/-- Load of bytes of which it is known what Load answers. -/
theorem load_good {w : World} {a : Option Addr} {c : Nat} {xs : List Nat} {m : Mo} (h : ldR xs = .inr m) (hl : Lies w a xs) (hc : xs.length ≤ c) (hcm : c ≤ 9223372036854775807) : Calls Tryz.prog 13 #[.slice a xs.length c] w fun e w' => (∃ A : MoP, A.mo = m ∧ e = .returned (.tuple #[.agg A.cs, .int .i64 0, .int .i64 0]) ∧ MoIn w' A) ∧ Below w.heap.size w w' := by
  refine (load_as hl hc hcm).mono ?_
  rintro e w' ⟨h1, h2⟩
  rw [show ldK chkM xs = .inr m from h] at h1
  obtain ⟨A, q1, q2, q3, -⟩ := h1
  exact ⟨⟨A, q1, q2, q3⟩, h2⟩
theorem load_bad {w : World} {a : Option Addr} {c : Nat} {xs : List Nat} {x y : Nat} (h : ldR xs = .inl (x, y)) (hl : Lies w a xs) (hc : xs.length ≤ c) (hcm : c ≤ 9223372036854775807) : Calls Tryz.prog 13 #[.slice a xs.length c] w fun e w' => e = .returned (.tuple #[.agg zMd, .int .i64 (x : Int), .int .i64 (y : Int)]) ∧ Below w.heap.size w w' := by
  refine (load_as hl hc hcm).mono ?_
  rintro e w' ⟨h1, h2⟩
  rw [show ldK chkM xs = .inl (x, y) from h] at h1
  exact ⟨h1, h2⟩
end Go.Proofs.YtmmbdpdpkkikjaaGreat
