import Derived.Test.YtmhnbklchnnbaaaGreatDoorJCkRead
import Derived.Test.YtmhnbklchnnbaaaGreatDoorJCkFits
import Derived.Test.YtmhnbklchnnbaaaGreatDoorQ19
import Derived.Test.YtmhnbklchnnbaaaGreatDoorCkAsks
import Derived.Test.YtmhnbklchnnbaaaGreatDoorJStmt7
set_option maxHeartbeats 4000000
set_option maxRecDepth 100000
namespace Go.Proofs.YtmhnbklchnnbaaaGreatDoor
open Go.RowKit
set_option linter.unusedVariables false
def GoodX (x : List Nat) : Prop := (∀ c ∈ x, c < 256) ∧ x.length ≤ 9223372036854775807
def goodTr : Tree → Prop
  | ⟨k, a, x, n, ks⟩ => GoodX x ∧ ks.length ≤ 1000000 ∧ goodTL ks
  where goodTL : List Tree → Prop
  | [] => True
  | t :: ts => goodTr t ∧ goodTL ts
theorem good_parts (t : Tree) : goodTr t ↔ GoodX t.text ∧ t.kids.length ≤ 1000000 ∧ goodTr.goodTL t.kids := by obtain ⟨k, a, x, n, ks⟩ := t; rw [goodTr]
theorem pfits_as (w : World) (r k a n : Int) (b : ByteArray) (ao : Option Addr) (m cap : Nat) (hm : m ≤ 1000000000) (hr : 0 ≤ r ∧ r ≤ 21) (x : List Nat) (HX : Hid (b = strN x ∧ (∀ c ∈ x, c < 256) ∧ x.length ≤ 9223372036854775807)) : Calls Tryz.prog 11 #[.agg #[.int .u8 k, .int .i64 a, .string b, .int .u64 n, .slice ao m cap, .int .u8 r]] w fun en w' => en = .returned (.bool (fitsI r k x n m)) ∧ Below w.heap.size w w' := by
  obtain ⟨l1, l2, hl⟩ : ∃ l1 l2, kidsI k = (l1, l2) := ⟨_, _, rfl⟩
  obtain ⟨qt, hqt⟩ : ∃ q, takesI r k = q := ⟨_, rfl⟩
  obtain ⟨qx, hqx⟩ : ∃ q, textI k x = q := ⟨_, rfl⟩
  obtain ⟨qn, hqn⟩ : ∃ q, numI k x n = q := ⟨_, rfl⟩
  have HF : Hid (fitsI r k x n m = (qt && decide (l1 ≤ (m : Int)) && decide ((m : Int) ≤ l2) && qx && qn)) := by unfold Hid fitsI; rw [hqt, hqx, hqn, hl]
  have CK : ∀ W : World, Calls Tryz.prog 17 #[.int .u8 k] W fun en w' => en = .returned (.tuple #[.int .i64 l1, .int .i64 l2]) ∧ W = w' := fun W => by have := pkidsOf_as W k; rw [hl] at this; exact this
  have CT : ∀ W : World, Calls Tryz.prog 18 #[.int .u8 r, .int .u8 k] W fun en w' => en = .returned (.bool qt) ∧ W = w' := fun W => by have := ptakes_as W r k hr; rw [hqt] at this; exact this
  have CX : ∀ W : World, Calls Tryz.prog 19 #[.agg #[.int .u8 k, .int .i64 a, .string b, .int .u64 n, .slice ao m cap, .int .u8 r]] W fun en w' => en = .returned (.bool qx) ∧ Below W.heap.size W w' := fun W => by have := ptextFits_as W r k a n b (.slice ao m cap) rfl x HX; rw [hqx] at this; exact this
  have CN : ∀ W : World, Calls Tryz.prog 20 #[.agg #[.int .u8 k, .int .i64 a, .string b, .int .u64 n, .slice ao m cap, .int .u8 r]] W fun en w' => en = .returned (.bool qn) ∧ Below W.heap.size W w' := fun W => by have := pnumberFits_as W r k a n b (.slice ao m cap) rfl x HX; rw [hqn] at this; exact this
  have hb0 : Below w.heap.size w (w.alloc (.cells #[.int .u8 k, .int .i64 a, .string b, .int .u64 n, .slice ao m cap, .int .u8 r] 35)) := (Below.refl _ _).alloc (Nat.le_refl _) _
  have hs0 : w.heap.size < (w.alloc (.cells #[.int .u8 k, .int .i64 a, .string b, .int .u64 n, .slice ao m cap, .int .u8 r] 35)).heap.size := by rw [World.size_alloc]; omega
  have ho0 : ∀ w', Below (w.alloc (.cells #[.int .u8 k, .int .i64 a, .string b, .int .u64 n, .slice ao m cap, .int .u8 r] 35)).heap.size (w.alloc (.cells #[.int .u8 k, .int .i64 a, .string b, .int .u64 n, .slice ao m cap, .int .u8 r] 35)) w' → Own w' w.heap.size #[.int .u8 k, .int .i64 a, .string b, .int .u64 n, .slice ao m cap, .int .u8 r] 35 := fun w' hb => (Own.new w _ _).below hb
  clear hl hqt hqx hqn
  cases qt with
  | false =>
    go_enter Tryz.func11, Tryz.ntmps11
    go_wp2_with (first | (go_at_call 17; refine (CK _).mono ?_; rintro en _ ⟨rfl, rfl⟩) | (go_at_call 18; refine (CT _).mono ?_; rintro en _ ⟨rfl, rfl⟩))
    all_goals go_ret
    all_goals exact ⟨ret_bool (by rw [HF.out]; simp), hb0⟩
  | true =>
    cases hd1 : decide (l1 ≤ (m : Int)) with
    | false =>
      go_enter Tryz.func11, Tryz.ntmps11
      go_wp2_with (first | (go_at_call 17; refine (CK _).mono ?_; rintro en _ ⟨rfl, rfl⟩) | (go_at_call 18; refine (CT _).mono ?_; rintro en _ ⟨rfl, rfl⟩))
      all_goals go_ret
      all_goals exact ⟨ret_bool (by rw [HF.out, hd1]; simp), hb0⟩
    | true =>
      cases hd2 : decide ((m : Int) ≤ l2) with
      | false =>
        go_enter Tryz.func11, Tryz.ntmps11
        go_wp2_with (first | (go_at_call 17; refine (CK _).mono ?_; rintro en _ ⟨rfl, rfl⟩) | (go_at_call 18; refine (CT _).mono ?_; rintro en _ ⟨rfl, rfl⟩))
        all_goals go_ret
        all_goals exact ⟨ret_bool (by rw [HF.out, hd1, hd2]; simp), hb0⟩
      | true =>
        go_enter Tryz.func11, Tryz.ntmps11
        go_wp2_with (first | (go_at_call 17; refine (CK _).mono ?_; rintro en _ ⟨rfl, rfl⟩) | (go_at_call 18; refine (CT _).mono ?_; rintro en _ ⟨rfl, rfl⟩))
        refine (CX _).mono ?_
        rintro en w1 ⟨rfl, hb1⟩
        have o1 := ho0 w1 hb1
        have p0 : w1.cell? ⟨w.heap.size, 0, none⟩ = some (.int .u8 k) := cell_of_row _ _ 0 _ _ _ o1
        have p1 : w1.cell? ⟨w.heap.size, 1, none⟩ = some (.int .i64 a) := cell_of_row _ _ 1 _ _ _ o1
        have p2 : w1.cell? ⟨w.heap.size, 2, none⟩ = some (.string b) := cell_of_row _ _ 2 _ _ _ o1
        have p3 : w1.cell? ⟨w.heap.size, 3, none⟩ = some (.int .u64 n) := cell_of_row _ _ 3 _ _ _ o1
        have p4 : w1.cell? ⟨w.heap.size, 4, none⟩ = some (.slice ao m cap) := cell_of_row _ _ 4 _ _ _ o1
        have p5 : w1.cell? ⟨w.heap.size, 5, none⟩ = some (.int .u8 r) := cell_of_row _ _ 5 _ _ _ o1
        have hb2 : Below w.heap.size w w1 := hb0.trans (hb1.mono (Nat.le_of_lt hs0))
        cases qx with
        | false =>
          go_wp2
          go_ret
          exact ⟨ret_bool (by rw [HF.out]; simp), hb2⟩
        | true =>
          go_wp2_with fail
          refine (CN _).mono ?_
          rintro en w2 ⟨rfl, hb3⟩
          go_wp2
          go_ret
          exact ⟨ret_bool (by rw [HF.out, hd1, hd2]; simp), hb2.trans (hb3.mono hb2.size)⟩
def PCells (w : World) : List (Int × Tree) → List Value → Prop
  | [], xs => xs = []
  | (r, t) :: st, xs => ∃ v rest, xs = .int .u8 (t.kind : Int) :: .int .i64 t.at_ :: .string (strN t.text) :: .int .u64 (t.n : Int) :: v :: .int .u8 r :: rest ∧ KidsR w v t.kids ∧ PCells w st rest
theorem PCells.snoc {w : World} {r : Int} {t : Tree} {v : Value} (hv : KidsR w v t.kids) : ∀ (st : List (Int × Tree)) (xs : List Value), PCells w st xs → PCells w (st ++ [(r, t)]) (xs ++ [.int .u8 (t.kind : Int), .int .i64 t.at_, .string (strN t.text), .int .u64 (t.n : Int), v, .int .u8 r]) := by
  intro st
  induction st with
  | nil => intro xs h; rw [PCells] at h; subst h; exact ⟨v, [], rfl, hv, rfl⟩
  | cons p st ih =>
    intro xs h
    obtain ⟨r0, t0⟩ := p
    obtain ⟨u, rest, rfl, h1, h2⟩ := h
    exact ⟨u, rest ++ _, rfl, h1, ih rest h2⟩
theorem PCells.length {w : World} : ∀ (st : List (Int × Tree)) (xs : List Value), PCells w st xs → xs.length = st.length * 6 := by
  intro st
  induction st with
  | nil => intro xs h; rw [PCells] at h; rw [h]; rfl
  | cons p st ih =>
    intro xs h
    obtain ⟨r0, t0⟩ := p
    obtain ⟨u, rest, rfl, h1, h2⟩ := h
    have := ih rest h2
    simp only [List.length_cons]; omega
theorem PCells.last {w : World} {r : Int} {t : Tree} : ∀ (st : List (Int × Tree)) (xs : List Value), PCells w (st ++ [(r, t)]) xs → ∃ ys v, xs = ys ++ [.int .u8 (t.kind : Int), .int .i64 t.at_, .string (strN t.text), .int .u64 (t.n : Int), v, .int .u8 r] ∧ PCells w st ys ∧ KidsR w v t.kids := by
  intro st
  induction st with
  | nil =>
    intro xs h
    obtain ⟨v, rest, rfl, h1, h2⟩ := h
    rw [PCells] at h2
    subst h2
    exact ⟨[], v, rfl, rfl, h1⟩
  | cons p st ih =>
    intro xs h
    obtain ⟨r0, t0⟩ := p
    obtain ⟨u, rest, rfl, h1, h2⟩ := h
    obtain ⟨ys, v, rfl, h3, h4⟩ := ih rest h2
    exact ⟨_ :: _ :: _ :: _ :: _ :: _ :: ys, v, rfl, ⟨u, ys, rfl, h1, h3⟩, h4⟩
def allV (st : List (Int × Tree)) : Bool := st.all fun p => validT p.1 p.2
def sumS : List (Int × Tree) → Nat
  | [] => 0
  | p :: st => cntT p.2 + sumS st
theorem sumS_app (a b : List (Int × Tree)) : sumS (a ++ b) = sumS a + sumS b := by
  induction a with
  | nil => simp [sumS]
  | cons x a ih => simp [sumS, ih]; omega
theorem sumS_len (a : List (Int × Tree)) : a.length ≤ sumS a := by
  induction a with
  | nil => simp [sumS]
  | cons x a ih => simp only [sumS, List.length_cons]; have := cnt_one x.2; omega
def kidsS (r : Int) (k m : Nat) : Nat → List Tree → List (Int × Tree)
  | _, [] => []
  | i, t :: ts => (asksI r k m i, t) :: kidsS r k m (i + 1) ts
theorem kidsS_all (r : Int) (k m : Nat) : ∀ (ts : List Tree) (i : Nat), allV (kidsS r k m i ts) = validT.validL r k m i ts := by
  intro ts
  induction ts with
  | nil => intro i; simp [kidsS, allV, validT.validL]
  | cons t ts ih =>
    intro i
    rw [validT.validL, ← ih]
    simp [kidsS, allV]
theorem kidsS_sum (r : Int) (k m : Nat) : ∀ (ts : List Tree) (i : Nat), sumS (kidsS r k m i ts) = cntT.cntL ts := by
  intro ts
  induction ts with
  | nil => intro i; simp [kidsS, sumS, cntT.cntL]
  | cons t ts ih => intro i; rw [cntT.cntL, kidsS, sumS, ih]
theorem kidsS_len (r : Int) (k m : Nat) : ∀ (ts : List Tree) (i : Nat), (kidsS r k m i ts).length = ts.length := by
  intro ts
  induction ts with
  | nil => intro i; simp [kidsS]
  | cons t ts ih => intro i; simp [kidsS, ih]
theorem kidsS_take (r : Int) (k m : Nat) : ∀ (ts : List Tree) (i j : Nat) (t : Tree), ts[j]? = some t → kidsS r k m i (ts.take (j + 1)) = kidsS r k m i (ts.take j) ++ [(asksI r k m ((i + j : Nat) : Int), t)] := by
  intro ts
  induction ts with
  | nil => intro i j t h; simp at h
  | cons t0 ts ih =>
    intro i j t h
    cases j with
    | zero => cases h; simp [kidsS]
    | succ j =>
      rw [List.getElem?_cons_succ] at h
      have := ih (i + 1) j t h
      rw [show i + 1 + j = i + (j + 1) by omega] at this
      simp only [List.take_succ_cons, kidsS, this, List.cons_append]
theorem allV_app (a b : List (Int × Tree)) : allV (a ++ b) = (allV a && allV b) := by simp [allV]
theorem valid_one (r : Int) (t : Tree) : validT r t = (fitsI r t.kind t.text t.n t.kids.length && validT.validL r t.kind t.kids.length 0 t.kids) := by obtain ⟨k, a, x, n, ks⟩ := t; rw [validT]
theorem pick_range (i : Int) (l : List Int) (h : ∀ x ∈ l, 0 ≤ x ∧ x ≤ 21) : 0 ≤ pickI i l ∧ pickI i l ≤ 21 := by
  unfold pickI
  rw [List.getD_eq_getElem?_getD]
  cases hq : l[(min i ((l.length : Int) - 1)).toNat]? with
  | none => simp
  | some y => exact h y (List.mem_of_getElem? hq)
theorem either_range (b : Bool) (x y : Int) (hx : 0 ≤ x ∧ x ≤ 21) (hy : 0 ≤ y ∧ y ≤ 21) : 0 ≤ eitherI b x y ∧ eitherI b x y ≤ 21 := by
  unfold eitherI; split <;> assumption
theorem asks_range (r k m i : Int) : 0 ≤ asksI r k m i ∧ asksI r k m i ≤ 21 := by
  unfold asksI
  simp only []
  repeat' (first | decide | (refine pick_range _ _ ?_; intro x hx; simp only [List.mem_cons, List.not_mem_nil, or_false] at hx; rcases hx with rfl | rfl | rfl | rfl <;> first | decide | (refine either_range _ _ _ ?_ ?_ <;> decide); done) | (refine pick_range _ _ ?_; intro x hx; simp only [List.mem_cons, List.not_mem_nil, or_false] at hx; rcases hx with rfl | rfl | rfl <;> first | decide | (refine either_range _ _ _ ?_ ?_ <;> decide); done) | (refine pick_range _ _ ?_; intro x hx; simp only [List.mem_cons, List.not_mem_nil, or_false] at hx; rcases hx with rfl | rfl <;> first | decide | (refine either_range _ _ _ ?_ ?_ <;> decide); done) | (refine either_range _ _ _ ?_ ?_) | split)
theorem infoP : (Tryz.prog.info? 35).map (fun i => (i.zero, i.size, i.bytes)) = some (some (.agg #[.int .u8 0, .int .i64 0, .string ⟨#[]⟩, .int .u64 0, .slice none 0 0, .int .u8 0]), 6, 72) := by kernel_rfl
theorem step_appP {W : World} {ops : Array Oper} {o : Oper} {a : Act} {K : Act → World → Prop} {Q : Exit → Act → World → Prop} {E : Prop} (hgd : o.guard = none) (s x : Operand)
    (ho : o.op = .call { callee := .builtin .append, args := #[s, x], argTypes := #[36, 36] })
    (B : Nat) (v : Value) (n : Nat) (xs : List Value) (hs : a.eval s = v) (hown : W.ownsRow B 35 6 v n xs) (b : Nat) (c0 c1 c2 c3 c4 c5 : Value) (hx : a.eval x = .slice (some ⟨b, 0, none⟩) 1 1) (hb : Own W b #[c0, c1, c2, c3, c4, c5] 35)
    (h1 : c0.oneCell' = true ∧ c1.oneCell' = true ∧ c2.oneCell' = true ∧ c3.oneCell' = true ∧ c4.oneCell' = true ∧ c5.oneCell' = true) (h63 : n + 1 ≤ 1000000000) (hbase : B ≤ W.heap.size)
    (h : ∀ ao cap w', w'.ownsRow B 35 6 (.slice ao (n + 1) cap) (n + 1) (xs ++ [c0, c1, c2, c3, c4, c5]) → W.grownBy w' v.ownBlock → (∀ k, v.ownBlock = some k → B ≤ k ∧ k < W.heap.size) → ((Value.slice ao (n + 1) cap).ownBlock = v.ownBlock ∨ (Value.slice ao (n + 1) cap).ownBlock = some W.heap.size) → K (a.put o.dst (.slice ao (n + 1) cap)) w') :
    if Region.wanted o (yielded ops a.tmps) = true then Oper.wp Tryz.prog o a W K Q else E := by
  have hw : Region.wanted o (yielded ops a.tmps) = true := by simp [Region.wanted, hgd]
  rw [if_pos hw]
  obtain ⟨i8, hi, hz0, hz1, hz2⟩ := info_parts infoP
  obtain ⟨v', w', hr, g1, g2, _, g4⟩ := run_append_own_at (P := Tryz.prog) W B 36 o.type 35 i8 _ 6 72 Tryz.underlying36 hi hz0 hz1 hz2 rfl (by omega) v n xs hown ⟨b, 0, none⟩ 1 1 [c0, c1, c2, c3, c4, c5] rfl (fun j u hu => by
    have hadd : (⟨b, 0, none⟩ : Addr).add j = ⟨b, j, none⟩ := by unfold Addr.add; split <;> simp_all
    rw [hadd, cell_of_row _ b j _ 35 _ hb]; simpa using hu) (fun u hu => by
    obtain ⟨q0, q1, q2, q3, q4, q5⟩ := h1
    simp only [List.mem_cons, List.not_mem_nil, or_false] at hu
    rcases hu with rfl | rfl | rfl | rfl | rfl | rfl <;> assumption) (by unfold maxLen; omega) (by omega) hbase
  have hsh : ∃ ao cap, v' = .slice ao (n + 1) cap := by
    rcases g1.2 with ⟨rfl, h0⟩ | ⟨g, cap, cur, rfl, _⟩
    · omega
    · exact ⟨_, _, rfl⟩
  obtain ⟨ao, cap, rfl⟩ := hsh
  unfold Oper.wp execOp
  simp only [ho, resolve, invoke, builtin, Sem.run_bind, Sem.run_pure, Result.andThen_ok, List.map_toArray, List.map_cons, List.map_nil, hs, hx, hr]
  exact h ao cap w' g1 g2 (fun k hk => hown.lt k hk) g4
def fine (st : List (Int × Tree)) : Prop := ∀ p ∈ st, (0 ≤ p.1 ∧ p.1 ≤ 21) ∧ goodTr p.2
def CheckRel (w : World) (res : Bool) (g : Nat) (tv : Value) (wr : World) : Prop := ∃ (st : List (Int × Tree)) (xs : List Value), wr.ownsRow w.heap.size 35 6 tv st.length xs ∧ PCells w st xs ∧ Below w.heap.size w wr ∧ allV st = res ∧ fine st ∧ g = sumS st ∧ sumS st ≤ 65536
def AskRel (w : World) (st : List (Int × Tree)) (r : Int) (t : Tree) (gp : Nat) (pc : Array Value) (tv iv : Value) (wr : World) : Prop := ∃ (j : Nat) (xs : List Value), j ≤ t.kids.length ∧ iv = .int .i64 (j : Int) ∧ wr.ownsRow w.heap.size 35 6 tv (st.length + j) xs ∧ PCells w (st ++ kidsS r t.kind t.kids.length 0 (t.kids.take j)) xs ∧ Below w.heap.size w wr ∧ Own wr gp pc 35 ∧ some gp ≠ tv.ownBlock
theorem fine_kids (r : Int) (k m : Nat) : ∀ (ts : List Tree), goodTr.goodTL ts → ∀ i, fine (kidsS r k m i ts) := by
  intro ts
  induction ts with
  | nil => intro _ i p hp; simp [kidsS] at hp
  | cons t ts ih =>
    intro h i p hp
    rw [goodTr.goodTL] at h
    rw [kidsS, List.mem_cons] at hp
    rcases hp with rfl | hp
    · exact ⟨asks_range _ _ _ _, h.1⟩
    · exact ih h.2 (i + 1) p hp
theorem part_shape {w : World} {B n : Nat} {v : Value} {xs : List Value} (h : w.ownsRow B 35 6 v n xs) : ∃ ao cap, v = .slice ao n cap := by
  rcases h.2 with ⟨rfl, h0⟩ | ⟨g, cap, cur, rfl, _⟩
  · exact ⟨_, _, by rw [h0]⟩
  · exact ⟨_, _, rfl⟩
theorem own_on {w w' : World} {B n : Nat} {v : Value} {xs : List Value} (h : w.ownsRow B 35 6 v n xs) (hb : Below w.heap.size w w') : w'.ownsRow B 35 6 v n xs := by
  refine ⟨h.1, ?_⟩
  rcases h.2 with h | ⟨g5, c5, cur5, e5, h5, o5, r5⟩
  · exact .inl h
  · exact .inr ⟨g5, c5, cur5, e5, h5, (hb.block g5 (Array.getElem?_eq_some_iff.1 o5).1).trans o5, r5⟩
theorem pCheck_as (w : World) (t : Tree) (hgood : goodTr t) (k a : Int) (b : ByteArray) (n : Int) (v : Value) (hN : NodeR w t k a b n v) : Calls Tryz.prog 6 #[.agg #[.int .u8 k, .int .i64 a, .string b, .int .u64 n, v]] w fun en w' => en = .returned (.int .i64 (checkN t : Int)) ∧ Below w.heap.size w w' := by
  have hkid := hN.2.2.2.2
  obtain ⟨ao, cap, rfl, hc1, hc2, hc3⟩ := id hkid
  obtain ⟨m, hm⟩ : ∃ m, t.kids.length = m := ⟨_, rfl⟩
  have HN : Hid (NodeR w t k a b n (.slice ao m cap)) := by unfold Hid; rw [← hm]; exact hN
  rw [hm]
  have hb1 : Below w.heap.size w (w.alloc (.cells #[.int .u8 k, .int .i64 a, .string b, .int .u64 n, .slice ao m cap] 25)) := (Below.refl _ _).alloc (Nat.le_refl _) _
  have HS := pisSmall_as _ t k a b n _ (HN.out.below hb1)
  obtain ⟨sm, hsm⟩ : ∃ sm, decide (cntT t ≤ 65536) = sm := ⟨_, rfl⟩
  rw [hsm] at HS
  have HSM : Hid (decide (cntT t ≤ 65536) = sm) := hsm
  clear hkid hN hc1 hc3 hsm hm
  go_enter Tryz.func6, Tryz.ntmps6
  go_wp2_with fail
  refine HS.mono ?_
  clear HS
  rintro en w1 ⟨rfl, hb2⟩
  have o1 := (Own.new w #[.int .u8 k, .int .i64 a, .string b, .int .u64 n, .slice ao m cap] 25).below hb2
  have hs1 : w.heap.size < w1.heap.size := o1.lt
  have hb3 : Below w.heap.size w w1 := hb1.trans (hb2.mono (by rw [World.size_alloc]; omega))
  clear hb1 hb2
  cases sm with
  | false =>
    have HCK : Hid (checkN t = 3) := by unfold Hid checkN; rw [if_pos (by have := HSM.out; rw [decide_eq_false_iff_not] at this; omega)]
    go_wp2
    go_ret
    exact ⟨by rw [HCK.out]; rfl, hb3⟩
  | true =>
    have hle : cntT t ≤ 65536 := by have := HSM.out; simpa using this
    obtain ⟨res, hres⟩ : ∃ res, validT 0 t = res := ⟨_, rfl⟩
    have HCK : Hid ((checkN t : Int) = if res then 0 else 50) := by
      unfold Hid checkN
      rw [if_neg (by omega), hres]
      cases res <;> rfl
    obtain ⟨e0, e1, e2, e3, e4, ef⟩ := o1.five
    go_wp2_with fail
    have hown0 : (w1.alloc (.cells #[.int .u8 k, .int .i64 a, .string b, .int .u64 n, .slice ao m cap, .int .u8 0] 35)).ownsRow w.heap.size 35 6 (.slice (some ⟨w1.heap.size, 0, none⟩) 1 1) [((0 : Int), t)].length [.int .u8 k, .int .i64 a, .string b, .int .u64 n, .slice ao m cap, .int .u8 0] :=
      ⟨rfl, .inr ⟨w1.heap.size, 1, #[.int .u8 k, .int .i64 a, .string b, .int .u64 n, .slice ao m cap, .int .u8 0], rfl, by omega, heap_alloc_new w1 _, Nat.le_refl _, by unfold maxLen; omega, rfl, rfl⟩⟩
    have hpc0 : PCells w [((0 : Int), t)] [.int .u8 k, .int .i64 a, .string b, .int .u64 n, .slice ao m cap, .int .u8 0] := by
      obtain ⟨rfl, rfl, rfl, rfl, h5⟩ := HN.out
      exact ⟨_, [], rfl, h5, rfl⟩
    have hb4 : Below w.heap.size w (w1.alloc (.cells #[.int .u8 k, .int .i64 a, .string b, .int .u64 n, .slice ao m cap, .int .u8 0] 35)) := hb3.alloc hb3.size _
    have hV0 : allV [((0 : Int), t)] = res := by simp [allV, hres]
    clear e0 e1 e2 e3 e4 ef
    go_loopg [3] (sumS [((0 : Int), t)]) (fun g tv wr => CheckRel w res g tv wr)
    case atStart => exact ⟨[((0 : Int), t)], _, hown0, hpc0, hb4, hV0, by intro p hp; rw [List.mem_singleton.1 hp]; exact ⟨(by decide : (0 : Int) ≤ 0 ∧ (0 : Int) ≤ 21), hgood⟩, rfl, by simp [sumS]; omega⟩
    case round =>
      clear hown0 hpc0 hb4 hV0
      obtain ⟨st, xs, hown, hpc, hb, hre, hfi, hg, hle2⟩ := hrel
      rcases List.eq_nil_or_concat st with rfl | ⟨st', ⟨r, t⟩, rfl⟩
      · have hr : res = true := by rw [← hre]; rfl
        subst hr
        obtain ⟨ao3, cap3, rfl⟩ := part_shape hown
        clear hown hpc hre hg
        go_wp2
        go_ret
        exact ⟨by rw [HCK.out]; rfl, hb⟩
      · rw [List.concat_eq_append] at *
        have hll : (st' ++ [(r, t)]).length = st'.length + 1 := by simp
        rw [hll] at hown
        obtain ⟨ys, vt, rfl, hpc2, hkr⟩ := PCells.last _ _ hpc
        obtain ⟨hxl, hown2⟩ := hown
        have hyl : ys.length = st'.length * 6 := PCells.length _ _ hpc2
        rcases hown2 with ⟨_, h0⟩ | ⟨g4, cap4, cur, rfl, hg4, ho, r1, r2, r3, r4⟩
        · omega
        · obtain ⟨p, hp⟩ : ∃ p, st'.length = p := ⟨_, rfl⟩
          obtain ⟨at1, cap1, rfl, hk1, hk2, hk3⟩ := id hkr
          obtain ⟨hrr, hgt⟩ := hfi (r, t) (by simp)
          obtain ⟨hgx, hgl, hgk⟩ := (good_parts t).1 hgt
          have hcell : ∀ c, c < 6 → wr.cell? ⟨g4, p * 6 + c, none⟩ = [Value.int .u8 (t.kind : Int), .int .i64 t.at_, .string (strN t.text), .int .u64 (t.n : Int), .slice at1 t.kids.length cap1, .int .u8 r][c]? := by
            intro c hc
            rw [cell_of_row _ g4 (p * 6 + c) _ _ _ ho, ← Array.getElem?_toList]
            have h1 : (cur.toList.take ((st'.length + 1) * 6))[p * 6 + c]? = _ := congrArg (·[p * 6 + c]?) r4
            rw [List.getElem?_take, if_pos (by omega), List.getElem?_append_right (by omega), show p * 6 + c - ys.length = c by omega] at h1
            exact h1
          have f0 := hcell 0 (by omega)
          have f1 := hcell 1 (by omega)
          have f2 := hcell 2 (by omega)
          have f3 := hcell 3 (by omega)
          have f4 := hcell 4 (by omega)
          have f5 := hcell 5 (by omega)
          simp only [Nat.add_zero, List.getElem?_cons_zero, List.getElem?_cons_succ] at f0 f1 f2 f3 f4 f5
          have hg4b : g4 < wr.heap.size := (Array.getElem?_eq_some_iff.1 ho).1
          have hown3 : wr.ownsRow w.heap.size 35 6 (.slice (some ⟨g4, 0, none⟩) p cap4) p ys := by
            refine ⟨by omega, .inr ⟨g4, cap4, cur, rfl, hg4, ho, by omega, r2, r3, ?_⟩⟩
            have e2 : List.take (p * 6) (ys ++ [Value.int .u8 (t.kind : Int), .int .i64 t.at_, .string (strN t.text), .int .u64 (t.n : Int), .slice at1 t.kids.length cap1, .int .u8 r]) = ys := by rw [List.take_append_of_le_length (by omega), List.take_of_length_le (by omega)]
            have := congrArg (List.take (p * 6)) r4
            rw [e2, List.take_take, show min (p * 6) ((st'.length + 1) * 6) = p * 6 by omega] at this
            exact this
          obtain ⟨kk, hkk⟩ : ∃ kk : Int, (t.kind : Int) = kk := ⟨_, rfl⟩
          obtain ⟨aa, haa⟩ : ∃ aa : Int, t.at_ = aa := ⟨_, rfl⟩
          obtain ⟨bb, hbb⟩ : ∃ bb, strN t.text = bb := ⟨_, rfl⟩
          obtain ⟨nn, hnn⟩ : ∃ nn : Int, (t.n : Int) = nn := ⟨_, rfl⟩
          obtain ⟨q, hq⟩ : ∃ q, t.kids.length = q := ⟨_, rfl⟩
          rw [hkk] at f0
          rw [haa] at f1
          rw [hbb] at f2
          rw [hnn] at f3
          rw [hq] at f4 hk1 hgl
          have HT : Hid ((t.kind : Int) = kk ∧ t.at_ = aa ∧ strN t.text = bb ∧ (t.n : Int) = nn ∧ t.kids.length = q) := ⟨hkk, haa, hbb, hnn, hq⟩
          have HX : Hid (bb = strN t.text ∧ (∀ c ∈ t.text, c < 256) ∧ t.text.length ≤ 9223372036854775807) := ⟨hbb.symm, hgx.1, hgx.2⟩
          have HFI : Hid (fine st') := fun p hp => hfi p (by simp [hp])
          have HRE : Hid ((allV st' && (fitsI r kk t.text nn q && validT.validL r t.kind t.kids.length 0 t.kids)) = res) := by
            unfold Hid
            rw [← hre, allV_app, ← hkk, ← hnn, ← hq]
            simp only [allV, List.all_cons, List.all_nil, Bool.and_true]
            rw [valid_one]
          have hsum : sumS (st' ++ [(r, t)]) = sumS st' + 1 + cntT.cntL t.kids := by rw [sumS_app]; simp only [sumS]; rw [cnt_one]; omega
          have HGG : Hid (gk = sumS st' + 1 + cntT.cntL t.kids) := hg.trans hsum
          rw [hsum] at hle2
          have HKR : Hid (KidsR w (.slice at1 t.kids.length cap1) t.kids) := hkr
          have HO3 : Hid (wr.ownsRow w.heap.size 35 6 (.slice (some ⟨g4, 0, none⟩) p cap4) p ys) := hown3
          have HPC : Hid (PCells w st' ys) := hpc2
          have HGK : Hid (goodTr.goodTL t.kids) := hgk
          have hcap4 : cap4 ≤ 9223372036854775807 := by unfold maxLen at r2; omega
          have hlen := sumS_len st'
          rw [hp] at r1 hlen ⊢
          clear hre hg hkr hown3 hpc hpc2 ho r3 r4 hfi hgt hgx hgk hxl hk3 hll hcell hkk haa hbb hnn hq hsum hyl
          have hb5 : Below wr.heap.size wr (wr.alloc (.cells #[.int .u8 kk, .int .i64 aa, .string bb, .int .u64 nn, .slice at1 q cap1, .int .u8 r] 35)) := (Below.refl _ _).alloc (Nat.le_refl _) _
          obtain ⟨qf, hqf⟩ : ∃ qf, fitsI r kk t.text nn q = qf := ⟨_, rfl⟩
          have CF : ∀ W : World, Calls Tryz.prog 11 #[.agg #[.int .u8 kk, .int .i64 aa, .string bb, .int .u64 nn, .slice at1 q cap1, .int .u8 r]] W fun en w' => en = .returned (.bool qf) ∧ Below W.heap.size W w' := fun W => by have := pfits_as W r kk aa nn bb at1 q cap1 (by omega) hrr t.text HX; rw [hqf] at this; exact this
          rw [hqf] at HRE
          clear hqf
          go_wp2_with fail
          refine (CF _).mono ?_
          clear CF
          rintro en w2 ⟨rfl, hb6⟩
          have op := (Own.new wr #[.int .u8 kk, .int .i64 aa, .string bb, .int .u64 nn, .slice at1 q cap1, .int .u8 r] 35).below hb6
          have hb7 : Below wr.heap.size wr w2 := hb5.trans (hb6.mono (by rw [World.size_alloc]; omega))
          have hb8 : Below w.heap.size w w2 := hb.trans (hb7.mono hb.size)
          clear hb5 hb6
          cases qf with
          | false =>
            have hr : res = false := by rw [← HRE.out]; simp
            subst hr
            clear HRE
            go_wp2
            go_ret
            exact ⟨by rw [HCK.out]; rfl, hb8⟩
          | true =>
            have hopl := op.lt
            have d4 : w2.cell? ⟨wr.heap.size, 4, none⟩ = some (.slice at1 q cap1) := cell_of_row _ _ 4 _ _ _ op
            have hown4 : w2.ownsRow w.heap.size 35 6 (.slice (some ⟨g4, 0, none⟩) p cap4) p ys := own_on HO3.out hb7
            have hwr := hb.size
            go_wp2_with fail
            obtain ⟨gp, hgp⟩ : ∃ gp, wr.heap.size = gp := ⟨_, rfl⟩
            rw [hgp] at op hopl d4 hg4b hwr ⊢
            go_loopw [3, 34] (fun tv iv wr => AskRel w st' r t gp #[.int .u8 kk, .int .i64 aa, .string bb, .int .u64 nn, .slice at1 q cap1, .int .u8 r] tv iv wr) (fun _ iv _ => t.kids.length - (intOf iv).toNat)
            case atStart => exact ⟨0, ys, Nat.zero_le _, rfl, by rw [hp, Nat.add_zero]; exact hown4, by simpa [kidsS] using HPC.out, hb8, op, by simp [Value.ownBlock]; omega⟩
            case round =>
              clear hown4 hb8 op d4 hgp hb7 hopl
              obtain ⟨j, zs, hj, rfl, hown, hpc, hb9, op, hne⟩ := hrel
              have HPC2 : Hid (PCells w (st' ++ kidsS r t.kind t.kids.length 0 (t.kids.take j)) zs) := hpc
              rw [hp] at hown
              by_cases hjl : j < t.kids.length
              · have hkj : t.kids[j]? = some t.kids[j] := List.getElem?_eq_getElem hjl
                obtain ⟨aq, cq, eq, _, _, hk4⟩ := HKR.out
                cases eq
                rcases hk4 with hk4 | ⟨g2, o2, cs2, T2, fr2, rfl, hg2, hcr⟩
                · rw [hk4] at hjl; simp at hjl
                · obtain ⟨aj, cj, d0, d1, d2, d3, d4, hkk⟩ := cellsR_at _ _ _ hcr j _ hkj
                  have hg2b : g2 < w.heap.size := (Array.getElem?_eq_some_iff.1 hg2).1
                  have hg2w : wr.heap[g2]? = some (.cells cs2 T2 fr2) := (hb9.block g2 hg2b).trans hg2
                  have i0 := (cell_of_row _ g2 (o2 + j * 5) _ _ _ hg2w).trans d0
                  have i1 := (cell_of_row _ g2 (o2 + j * 5 + 1) _ _ _ hg2w).trans d1
                  have i2 := (cell_of_row _ g2 (o2 + j * 5 + 2) _ _ _ hg2w).trans d2
                  have i3 := (cell_of_row _ g2 (o2 + j * 5 + 3) _ _ _ hg2w).trans d3
                  have i4 := (cell_of_row _ g2 (o2 + j * 5 + 4) _ _ _ hg2w).trans d4
                  have hg2r : g2 < wr.heap.size := Nat.lt_of_lt_of_le hg2b hb9.size
                  obtain ⟨tj, htj⟩ : ∃ tj, t.kids[j] = tj := ⟨_, rfl⟩
                  have HKK : Hid (KidsR w (.slice aj t.kids[j].kids.length cj) t.kids[j].kids) := hkk
                  rw [htj] at i0 i1 i2 i3 i4 HKK hkj
                  have HKJ : Hid (t.kids[j]? = some tj) := hkj
                  have hq := HT.out.2.2.2.2
                  have hjq : (j : Int) < (q : Int) := by rw [← hq]; omega
                  have hjq2 : j < q := by rw [← hq]; exact hjl
                  obtain ⟨ao3, cap3, rfl⟩ := part_shape hown
                  have hgpb := op.lt
                  have h63 : p + j + 1 ≤ 1000000000 := by omega
                  have hwb := hb9.size
                  clear hpc hkk hkj d0 d1 d2 d3 d4 hg2 hcr hg2w htj
                  go_upto_region 12 with fail
                  have ok := Own.new wr #[.int .u8 (tj.kind : Int), .int .i64 tj.at_, .string (strN tj.text), .int .u64 (tj.n : Int), .slice aj tj.kids.length cj] 25
                  replace op := op.alloc (.cells #[.int .u8 (tj.kind : Int), .int .i64 tj.at_, .string (strN tj.text), .int .u64 (tj.n : Int), .slice aj tj.kids.length cj] 25)
                  have hb10 : Below w.heap.size w (wr.alloc (.cells #[.int .u8 (tj.kind : Int), .int .i64 tj.at_, .string (strN tj.text), .int .u64 (tj.n : Int), .slice aj tj.kids.length cj] 25)) := hb9.alloc hwb _
                  have hown1 := own_on hown ((Below.refl _ _).alloc (Nat.le_refl _) (.cells #[.int .u8 (tj.kind : Int), .int .i64 tj.at_, .string (strN tj.text), .int .u64 (tj.n : Int), .slice aj tj.kids.length cj] 25))
                  have hsx : wr.heap.size < (wr.alloc (.cells #[.int .u8 (tj.kind : Int), .int .i64 tj.at_, .string (strN tj.text), .int .u64 (tj.n : Int), .slice aj tj.kids.length cj] 25)).heap.size := by rw [World.size_alloc]; omega
                  obtain ⟨gq, hgq⟩ : ∃ gq, wr.heap.size = gq := ⟨_, rfl⟩
                  rw [hgq] at ok hsx hgpb hwb hg2r ⊢
                  generalize hw : wr.alloc (.cells #[.int .u8 (tj.kind : Int), .int .i64 tj.at_, .string (strN tj.text), .int .u64 (tj.n : Int), .slice aj tj.kids.length cj] 25) = w3 at op ok hb10 hown1 hsx ⊢
                  clear hw hown hb9 hgq i0 i1 i2 i3 i4
                  obtain ⟨k0, k1, k2, k3, k4, kf⟩ := ok.five
                  have m0 : w3.cell? ⟨gp, 0, none⟩ = some (.int .u8 kk) := cell_of_row _ _ 0 _ _ _ op
                  have m1 : w3.cell? ⟨gp, 1, none⟩ = some (.int .i64 aa) := cell_of_row _ _ 1 _ _ _ op
                  have m2 : w3.cell? ⟨gp, 2, none⟩ = some (.string bb) := cell_of_row _ _ 2 _ _ _ op
                  have m3 : w3.cell? ⟨gp, 3, none⟩ = some (.int .u64 nn) := cell_of_row _ _ 3 _ _ _ op
                  have m4 : w3.cell? ⟨gp, 4, none⟩ = some (.slice (some ⟨g2, o2, none⟩) q cap1) := cell_of_row _ _ 4 _ _ _ op
                  have m5 : w3.cell? ⟨gp, 5, none⟩ = some (.int .u8 r) := cell_of_row _ _ 5 _ _ _ op
                  have hfx : FnIs 12 := fun a w => by kernel_rfl
                  have hjb : (0 : Int) ≤ (j : Int) ∧ (j : Int) ≤ 1000000000 := by omega
                  have hqb : q ≤ 1000000000 := by omega
                  go_region_law (first | (refine step_call2 (by rfl) 12 (.tmp 41) (.tmp 42) 35 3 (by rfl) hfx _ _ (by rfl) (by rfl) (pasks_as _ r kk aa nn bb (some ⟨g2, o2, none⟩) q cap1 hqb (j : Int) hjb) ?_; rintro en wa7 ⟨rfl, hb7⟩; refine ⟨_, rfl, ?_⟩; have ok7 := ok.drew.below hb7; have op7 := op.drew.below hb7; obtain ⟨y0, y1, y2, y3, y4, yf⟩ := ok7.five; have hs7 := hb7.size; rw [World.size_drew] at hs7; have hl7 := ok7.lt) | (refine step_appP (by rfl) (.tmp 39) (.tmp 45) (by rfl) w.heap.size _ (p + j) zs (by rfl) (own_on (own_on hown1 (w' := w3.drew) ⟨rfl, rfl, rfl, Nat.le_refl _, fun _ _ => rfl⟩) (hb7.alloc (Nat.le_trans (Nat.le_refl _) hb7.size) _)) wa7.heap.size _ _ _ _ _ _ (by rfl) (Own.new wa7 _ _) ⟨rfl, rfl, rfl, rfl, rfl, rfl⟩ h63 (by rw [World.size_alloc]; omega) ?_; intro ao8 cap8 wa8 hown8 gz8 hvb8 hnb8))
                  all_goals
                    have hb11 : Below w.heap.size w (wa7.alloc (.cells #[.int .u8 (tj.kind : Int), .int .i64 tj.at_, .string (strN tj.text), .int .u64 (tj.n : Int), .slice aj tj.kids.length cj, .int .u8 (asksI r kk (q : Int) (j : Int))] 35)) := by
                      have q1 : w.heap.size ≤ w3.heap.size := by omega
                      have q2 : w.heap.size ≤ wa7.heap.size := by omega
                      have h7 : Below w3.heap.size w3 wa7 := ⟨hb7.os, hb7.tape, hb7.output, hb7.size, hb7.block⟩
                      exact (hb10.trans (h7.mono q1)).alloc q2 _
                    have hb12 := below_grown hb11 gz8 (fun k hk => (hvb8 k hk).1) (Nat.le_refl _)
                    have op8 := (op7.alloc (.cells #[.int .u8 (tj.kind : Int), .int .i64 tj.at_, .string (strN tj.text), .int .u64 (tj.n : Int), .slice aj tj.kids.length cj, .int .u8 (asksI r kk (q : Int) (j : Int))] 35)).grown gz8 hne
                    have hne8 : some gp ≠ (Value.slice ao8 (p + j + 1) cap8).ownBlock := by
                      rcases hnb8 with e | e
                      · rw [e]; exact hne
                      · rw [e, World.size_alloc]; intro q2; have := Option.some.inj q2; omega
                    have hask : asksI r kk (q : Int) (j : Int) = asksI r t.kind (t.kids.length : Int) ((0 + j : Nat) : Int) := by rw [HT.out.1, HT.out.2.2.2.2, Nat.zero_add]
                    have hpc9 := PCells.snoc (r := asksI r kk (q : Int) (j : Int)) HKK.out _ _ HPC2.out
                    rw [List.append_assoc, hask, ← kidsS_take r t.kind t.kids.length t.kids 0 j tj HKJ.out, ← hask] at hpc9
                    have HPC9 : Hid (PCells w (st' ++ kidsS r t.kind t.kids.length 0 (t.kids.take (j + 1))) (zs ++ [.int .u8 (tj.kind : Int), .int .i64 tj.at_, .string (strN tj.text), .int .u64 (tj.n : Int), .slice aj tj.kids.length cj, .int .u8 (asksI r kk (q : Int) (j : Int))])) := hpc9
                    clear hpc9 hask
                    go_wp2
                    go_roundw
                    case rel => exact ⟨j + 1, _, by omega, by go_num, by rw [hp]; exact hown8, HPC9.out, hb12, op8, hne8⟩
                    case measure => simp [intOf]; omega
              · have hq := HT.out.2.2.2.2
                have hje : j = q := by omega
                have hjq : ¬ ((j : Int) < (q : Int)) := by omega
                have HOW : Hid (wr.ownsRow w.heap.size 35 6 u3 (p + j) zs) := hown
                clear hpc hown
                have p4 : wr.cell? ⟨gp, 4, none⟩ = some (.slice at1 q cap1) := cell_of_row _ _ 4 _ _ _ op
                go_wp2
                go_roundg (sumS (st' ++ kidsS r t.kind t.kids.length 0 t.kids))
                case rel =>
                  have htk : t.kids.take j = t.kids := List.take_of_length_le (by omega)
                  have hs3 := HPC2.out
                  rw [htk] at hs3
                  refine ⟨st' ++ kidsS r t.kind t.kids.length 0 t.kids, zs, by have := HOW.out; rw [List.length_append, kidsS_len, hp, hq]; rw [hje] at this; exact this, hs3, hb9, ?_, ?_, rfl, by rw [sumS_app, kidsS_sum]; omega⟩
                  · rw [← HRE.out, allV_app, kidsS_all]; simp
                  · intro x hx
                    rcases List.mem_append.1 hx with hx | hx
                    · exact HFI.out x hx
                    · exact fine_kids _ _ _ _ HGK.out 0 x hx
                case measure =>
                  rw [HGG.out, sumS_app, kidsS_sum]
                  omega
end Go.Proofs.YtmhnbklchnnbaaaGreatDoor
