/-
  Al, what is reached of it.
-/
import Derived.Test.YtkmmnocooibljaaGreatDoorLz
import Derived.Test.YtkmmnocooibljaaGreatDoorDe2q
namespace Go.Proofs.YtkmmnocooibljaaGreatDoor
open Go.ChangeShapes Go.WideShapes Go.ChangeAt Go.RowKit Go.Deep
set_option linter.unusedVariables false

theorem insC_append (x y : List (In × Value)) : insC (x ++ y) = insC x ++ insC y := by simp [insC]
def AllRet (w : World) (R : List In × List Nat × Nat) (e : Ending) (w' : World) : Prop :=
  ∃ vl vp ps, e = .returned (.tuple #[vl, vp, .int .i64 (R.2.2 : Int)]) ∧ ps.map Prod.fst = R.1 ∧ InsRow w' w.heap.size vl ps ∧ Rw w' 3 1 vp R.2.1.length (intC R.2.1) ∧ (∀ b, vp.ownBlock = some b → w.heap.size ≤ b) ∧ Below w.heap.size w w'
def joinI (acc : List In) (pl : List Nat) (q : List In × List Nat × Nat) : List In × List Nat × Nat := if q.2.2 ≠ 0 then ([], [], q.2.2) else (acc ++ q.1, pl ++ q.2.1, 0)
theorem joinI_nil (xs : List Nat) : ∀ f p, allR xs f p = joinI [] [] (allR xs f p) := by
  intro f p
  unfold joinI
  split
  · rename_i h
    cases f with
    | zero => exact absurd rfl h
    | succ f =>
      unfold allR at h ⊢
      split
      · rename_i h1; rw [if_pos h1] at h
      · rename_i h1
        rw [if_neg h1] at h
        simp only at h ⊢
        split
        · rfl
        · rename_i h2
          rw [if_neg h2] at h
          split
          · rfl
          · rename_i h3; rw [if_neg h3] at h; exact absurd rfl h
  · rename_i h
    have h0 : (allR xs f p).2.2 = 0 := by omega
    rw [← h0]
    simp
theorem joinI_end {xs : List Nat} {f p : Nat} {acc : List In} {pl : List Nat} (h : xs.length ≤ p) : joinI acc pl (allR xs f p) = (acc, pl, 0) := by
  have : allR xs f p = ([], [], 0) := by
    cases f with
    | zero => rfl
    | succ f => unfold allR; rw [if_pos h]
  rw [this]; simp [joinI]
theorem joinI_bad {xs : List Nat} {f p : Nat} {acc : List In} {pl : List Nat} (h : p < xs.length) (hd : (dec xs p).2.2 ≠ 0) : joinI acc pl (allR xs (f + 1) p) = ([], [], (dec xs p).2.2) := by
  have : allR xs (f + 1) p = ([], [], (dec xs p).2.2) := by unfold allR; rw [if_neg (by omega)]; simp only; rw [if_pos hd]
  rw [this]; unfold joinI; rw [if_pos hd]
theorem joinI_good {xs : List Nat} {f p : Nat} {acc : List In} {pl : List Nat} (h : p < xs.length) (hd : (dec xs p).2.2 = 0) : joinI acc pl (allR xs (f + 1) p) = joinI (acc ++ [(dec xs p).1]) (pl ++ [p]) (allR xs f (dec xs p).2.1) := by
  conv => lhs; unfold allR
  rw [if_neg (by omega)]
  simp only
  rw [if_neg (by omega)]
  unfold joinI
  by_cases h2 : (allR xs f (dec xs p).2.1).2.2 ≠ 0
  · rw [if_pos h2, if_pos h2, if_pos h2]
  · rw [if_neg h2, if_neg h2, if_neg (by simp)]; simp
structure AlRel (w : World) (xs : List Nat) (R : List In × List Nat × Nat) (g : Nat) (vl vp at_ : Value) (wr : World) : Prop where
  ex : ∃ (ps : List (In × Value)) (pl : List Nat) (p : Nat), at_ = .int .i64 (p : Int) ∧ p ≤ xs.length ∧ xs.length ≤ p + g ∧ ps.length + g ≤ xs.length + 1 ∧ pl.length = ps.length ∧ InsRow wr w.heap.size vl ps ∧ Rw wr 3 1 vp pl.length (intC pl) ∧ (∀ b, vp.ownBlock = some b → w.heap.size ≤ b) ∧ R = joinI (ps.map Prod.fst) pl (allR xs g p)
  bel : Below w.heap.size w wr
set_option maxHeartbeats 4000000 in
set_option maxRecDepth 100000 in
theorem all_as {w : World} {a : Option Addr} {L cap : Nat} {xs : List Nat} (hl : Lies w a xs) (hL : L = xs.length) (hmax : L ≤ 1000000) :
    Calls Tryz.prog 56 #[.slice a L cap] w (AllRet w (allD xs)) := by
  obtain ⟨R, HR⟩ : ∃ R, Hid (allD xs = R) := ⟨_, rfl⟩
  rw [HR.out]
  have HLi : Hid (∀ wr, Below w.heap.size w wr → Lies wr a xs) := fun wr h => hl.below h
  have HB : Hid (∀ c ∈ xs, c < 256) := hl.1
  have HL : Hid (L = xs.length) := hL
  have REL : Hid (AlRel w xs R L (.slice none 0 0) (.slice none 0 0) (.int .i64 0) w) :=
    ⟨⟨[], [], 0, rfl, Nat.zero_le _, by omega, by simp; omega, rfl, ⟨World.ownsRow_nil _ _ _ _, by simp [Value.ownBlock], by simp⟩, World.ownsRow_nil _ _ _ _, by simp [Value.ownBlock], by rw [← HR.out]; unfold allD; rw [hL]; exact joinI_nil _ _ _⟩, Below.refl _ _⟩
  clear hl hL
  go_enter Tryz.func56, Tryz.ntmps56
  go_wp2_with fail
  go_loopg [5, 6, 7] L (fun g vl vp at_ wr => AlRel w xs R g vl vp at_ wr)
  case atStart => exact REL.out
  case round =>
    clear REL
    obtain ⟨⟨ps, pl, p, rfl, hpl, hfu, hcnt, hlen, hrow, hints, hinew, hRR⟩, hbel⟩ := hrel
    obtain ⟨al, cl, rfl, -⟩ := hrow.row.shape
    have HLEN : Hid (pl.length = ps.length) := hlen
    rw [hlen] at hints
    clear hlen
    obtain ⟨ap, cpp, rfl, -⟩ := hints.shape
    by_cases hp : p < L
    · have hpx : p < xs.length := by rw [← HL.out]; exact hp
      have hcall := dec_as (HLi.out wr hbel) HL.out (p : Int) (cap := cap)
      cases gk with
      | zero => exact absurd hfu (by omega)
      | succ gk =>
      cases hd : dec xs p with
      | mk X q =>
      obtain ⟨q, er⟩ := q
      rw [hd] at hcall
      have HG : Hid (er = 0 → R = joinI (ps.map Prod.fst ++ [X]) (pl ++ [p]) (allR xs gk q)) := by
        intro h0
        have := joinI_good (xs := xs) (f := gk) (p := p) (acc := ps.map Prod.fst) (pl := pl) hpx (by rw [hd]; exact h0)
        rw [hd] at this
        rw [hRR, this]
      have HBd : Hid (er ≠ 0 → R = ([], [], er)) := by
        intro h0
        have := joinI_bad (xs := xs) (f := gk) (p := p) (acc := ps.map Prod.fst) (pl := pl) hpx (by rw [hd]; exact h0)
        rw [hd] at this
        rw [hRR, this]
      have HQ : Hid (er = 0 → p < q ∧ q ≤ xs.length) := by
        intro h0
        subst h0
        have := dec_forth xs HB.out p X q hd
        exact ⟨by omega, this.2.2.1⟩
      clear hRR hd
      go_wp2_with fail
      refine hcall.mono ?_
      rintro e w2 ⟨v, rfl, hva, hvn, hb2⟩
      replace hrow := hrow.below hb2
      replace hints := hints.on fun k e => hb2.block k (hints.lt e)
      have hvn2 : ∀ b, v.ownBlock = some b → w.heap.size ≤ b := fun b e => Nat.le_trans hbel.size (hvn b e)
      replace hbel := hbel.trans (hb2.mono hbel.size)
      obtain ⟨ao, cp, rfl, -⟩ := hva.shape
      clear hcall hb2 hvn
      have hsmall : ps.length ≤ 1000000 := by have := HL.out; omega
      have oX := Own.new w2 #[.int .u8 (X.op : Int), .int .i64 X.a, .int .i64 X.b, .slice ao X.arms.length cp] 43
      replace hrow := hrow.alloc (.cells #[.int .u8 (X.op : Int), .int .i64 X.a, .int .i64 X.b, .slice ao X.arms.length cp] 43)
      replace hints := hints.alloc (.cells #[.int .u8 (X.op : Int), .int .i64 X.a, .int .i64 X.b, .slice ao X.arms.length cp] 43)
      replace hva := hva.alloc (.cells #[.int .u8 (X.op : Int), .int .i64 X.a, .int .i64 X.b, .slice ao X.arms.length cp] 43)
      have hw2 := hbel.size
      replace hbel := hbel.alloc hbel.size (.cells #[.int .u8 (X.op : Int), .int .i64 X.a, .int .i64 X.b, .slice ao X.arms.length cp] 43)
      obtain ⟨N, HN⟩ : ∃ N : Int, Hid ((X.op : Int) = N) := ⟨_, rfl⟩
      rw [HN.out] at oX hrow hints hva hbel
      unfold insV
      rw [show ((X, q, er).1.op : Int) = N from HN.out]
      go_upto_region 6 with fail
      generalize w2.alloc (.cells #[.int .u8 N, .int .i64 X.a, .int .i64 X.b, .slice ao X.arms.length cp] 43) = w3 at *
      obtain ⟨x0, x1, x2, x3, xf⟩ := own4 oX
      by_cases h0 : er = 0
      · subst h0
        have hqp : p < q ∧ q ≤ xs.length := HQ.out rfl
        have HGG : Hid (R = joinI (ps.map Prod.fst ++ [X]) (pl ++ [p]) (allR xs gk q)) := HG.out rfl
        clear HQ HG HBd
        have hlt1 : ∀ b, (Value.slice al ps.length cl).ownBlock = some b → b < w3.heap.size := fun b e => hrow.row.lt e
        have oE := Own.new w3 #[.int .u8 N, .int .i64 X.a, .int .i64 X.b, .slice ao X.arms.length cp] 43
        have rowA := hrow.row.alloc (.cells #[.int .u8 N, .int .i64 X.a, .int .i64 X.b, .slice ao X.arms.length cp] 43)
        have HA : Hid (∀ ao2 cap2 wz, Rw wz 43 4 (.slice ao2 (ps.length + 1) cap2) (ps.length + 1) (insC ps ++ [.int .u8 N, .int .i64 X.a, .int .i64 X.b, .slice ao X.arms.length cp]) → (w3.alloc (.cells #[.int .u8 N, .int .i64 X.a, .int .i64 X.b, .slice ao X.arms.length cp] 43)).grownBy wz (Value.slice al ps.length cl).ownBlock → ((Value.slice ao2 (ps.length + 1) cap2).ownBlock = (Value.slice al ps.length cl).ownBlock ∨ (Value.slice ao2 (ps.length + 1) cap2).ownBlock = some (w3.alloc (.cells #[.int .u8 N, .int .i64 X.a, .int .i64 X.b, .slice ao X.arms.length cp] 43)).heap.size) →
            InsRow wz w.heap.size (.slice ao2 (ps.length + 1) cap2) (ps ++ [(X, .slice ao X.arms.length cp)]) ∧ Rw wz 3 1 (.slice ap ps.length cpp) ps.length (intC pl) ∧ Below w.heap.size w wz) := by
          intro ao2 cap2 wz q1 q2 q3
          have e2 : ∀ {size : Nat} {e : TypeId} {v : Value} {n : Nat} {ys : List Value}, Rw w3 e size v n ys → e ≠ 43 → Rw wz e size v n ys := fun {size e v n ys} h he => (h.alloc _).grown q2 (fun k hk => (h.alloc _).ne2 rowA he k hk |> fun hh e' => hh e'.symm)
          refine ⟨⟨?_, ?_, ?_⟩, e2 hints (by decide), (hbel.alloc hbel.size _).grown q2 (Nat.le_trans hbel.size (by simp)) (fun k e => hrow.new k e)⟩
          · rw [insC_append, List.length_append]
            rw [← HN.out] at q1
            exact q1
          · intro b e
            rcases q3 with q3 | q3
            · exact hrow.new b (by rw [← q3]; exact e)
            · rw [q3] at e; cases e; exact Nat.le_trans hbel.size (by simp)
          · intro y hy
            rcases List.mem_append.1 hy with hy | hy
            · exact ⟨e2 (hrow.arms y hy).1 (by decide), (hrow.arms y hy).2⟩
            · rw [List.mem_singleton.1 hy]; exact ⟨e2 hva (by decide), hvn2⟩
        clear hrow hints hva hbel
        go_wp2_with (first
          | (refine wpList_app1 okX (by rfl) (.tmp 25) (.tmp 27) (by rfl) _ ps.length (insC ps) (by rfl) rowA w3.heap.size [.int .u8 N, .int .i64 X.a, .int .i64 X.b, .slice ao X.arms.length cp] (by rfl) oE rfl (by simp [Value.oneCell']) (by omega) ?_; intro ao2 cap2 wz q1 q2 q3; obtain ⟨k1, k2, k3⟩ := HA.out ao2 cap2 wz q1 q2 q3; clear q1 q2 q3 rowA oE; have oI := Own.new wz #[.int .i64 (p : Int)] 3; have rowI := k2.alloc (.cells #[.int .i64 (p : Int)] 3); have k1a := k1.alloc (.cells #[.int .i64 (p : Int)] 3); have k3a := k3.alloc k3.size (.cells #[.int .i64 (p : Int)] 3); clear k1 k2)
          | (refine wpList_app1 okN (by rfl) (.tmp 29) (.tmp 31) (by rfl) _ ps.length (intC pl) (by rfl) rowI wz.heap.size [.int .i64 (p : Int)] (by rfl) oI rfl (by simp [Value.oneCell']) (by omega) ?_; intro ao3 cap3 wy p1 p2 p3))
        have k1b : InsRow wy w.heap.size (.slice ao2 (ps.length + 1) cap2) (ps ++ [(X, .slice ao X.arms.length cp)]) := ⟨k1a.row.grown p2 (fun k e => k1a.row.ne2 rowI (by decide) k e |> fun hh e' => hh e'.symm), k1a.new, fun y hy => ⟨(k1a.arms y hy).1.grown p2 (fun k e => (k1a.arms y hy).1.ne2 rowI (by decide) k e |> fun hh e' => hh e'.symm), (k1a.arms y hy).2⟩⟩
        have k3b : Below w.heap.size w wy := k3a.grown p2 k3a.size (fun k e => hinew k e)
        go_roundg gk
        case measure => omega
        case rel =>
          refine ⟨⟨ps ++ [(X, .slice ao X.arms.length cp)], pl ++ [p], q, rfl, hqp.2, by omega, by simp; omega, by simp [HLEN.out], ?_, ?_, ?_, ?_⟩, k3b⟩
          · exact k1b
          · rw [List.length_append, HLEN.out]
            have : intC (pl ++ [p]) = intC pl ++ [.int .i64 (p : Int)] := by simp [intC]
            rw [this]; exact p1
          · intro b e
            rcases p3 with p3 | p3
            · exact hinew b (by rw [← p3]; exact e)
            · rw [p3] at e; cases e; have := k3.size; simp; omega
          · rw [HGG.out]; simp
      · have HZ : Hid (AllRet w R (.returned (.tuple #[.slice none 0 0, .slice none 0 0, .int .i64 (er : Int)])) w3) := by
          rw [Hid, HBd.out h0]
          exact ⟨_, _, [], rfl, rfl, ⟨World.ownsRow_nil _ _ _ _, by simp [Value.ownBlock], by simp⟩, World.ownsRow_nil _ _ _ _, by simp [Value.ownBlock], hbel⟩
        have hq : (((er : Nat) : Int) == 0) = false := by simp; omega
        generalize (er : Int) = Q at *
        clear hrow hints hva hbel
        go_wp2
        go_ret3
        exact HZ.out
    · have HZ : Hid (AllRet w R (.returned (.tuple #[.slice al ps.length cl, .slice ap ps.length cpp, .int .i64 0])) wr) := by
        have hR0 : R = (ps.map Prod.fst, pl, 0) := by rw [hRR, joinI_end (by rw [← HL.out]; omega)]
        rw [Hid, hR0]
        exact ⟨_, _, ps, rfl, rfl, hrow, by rw [show (ps.map Prod.fst, pl, 0).2.1.length = ps.length from HLEN.out]; exact hints, hinew, hbel⟩
      clear hrow hints hinew hRR hbel hcnt hfu hpl
      go_wp2
      go_ret3
      exact HZ.out
end Go.Proofs.YtkmmnocooibljaaGreatDoor
