/-
  CONTRACT of the list of a switch's parts.
-/
import Derived.Test.YtepadfcjjcionaaGreatDoorLp
import Derived.Laws.AppendOwn
import Derived.Maps.AppendAt
namespace Go.Proofs.YtepadfcjjcionaaGreatDoor
open Go.RowKit
set_option linter.unusedVariables false

theorem info24 : (Tryz.prog.info? 24).map (fun i => (i.zero, i.size, i.bytes)) = some (some (.agg #[.int .u8 0, .int .i64 0, .int .i64 0, .string ⟨#[]⟩, .slice none 0 0]), 5, 64) := by kernel_rfl
theorem info_parts {t : TypeId} {z : Value} {s b : Nat} (h : (Tryz.prog.info? t).map (fun i => (i.zero, i.size, i.bytes)) = some (some z, s, b)) : ∃ i, Tryz.prog.info? t = some i ∧ i.zero = some z ∧ i.size = s ∧ i.bytes = b := by
  cases hi : Tryz.prog.info? t with
  | none => rw [hi] at h; cases h
  | some i =>
    rw [hi] at h
    simp only [Option.map_some, Option.some.injEq, Prod.mk.injEq] at h
    exact ⟨i, rfl, h⟩

/-- The cells of terms one behind the other. -/
def RowIs (w0 : World) : List Tm → List Value → Prop
  | [], xs => xs = []
  | t :: ts, xs => ∃ v rest, xs = .int .u8 t.op :: .int .i64 t.ty :: .int .i64 t.n :: .string t.tx :: v :: rest ∧ KidsR w0 v t.ks ∧ inr t.n ∧ RowIs w0 ts rest
theorem RowIs.snoc {w0 : World} {u : Tm} {v : Value} (hv : KidsR w0 v u.ks) (hn : inr u.n) : ∀ {ts : List Tm} {xs : List Value}, RowIs w0 ts xs → RowIs w0 (ts ++ [u]) (xs ++ [.int .u8 u.op, .int .i64 u.ty, .int .i64 u.n, .string u.tx, v])
  | [], xs, h => by
    simp only [RowIs] at h
    subst h
    exact ⟨v, [], rfl, hv, hn, rfl⟩
  | t :: ts, xs, h => by
    obtain ⟨v', rest, rfl, h1, h2, h3⟩ := h
    exact ⟨v', _, rfl, h1, h2, RowIs.snoc hv hn h3⟩
theorem RowIs.get {w0 : World} : ∀ {ts : List Tm} {xs : List Value}, RowIs w0 ts xs → ∀ {j : Nat} {u : Tm}, ts[j]? = some u → ∃ v, xs[j * 5]? = some (.int .u8 u.op) ∧ xs[j * 5 + 1]? = some (.int .i64 u.ty) ∧ xs[j * 5 + 2]? = some (.int .i64 u.n) ∧ xs[j * 5 + 3]? = some (.string u.tx) ∧ xs[j * 5 + 4]? = some v ∧ KidsR w0 v u.ks ∧ inr u.n
  | [], _, _, j, u, hj => by simp at hj
  | t :: ts, xs, h, j, u, hj => by
    obtain ⟨v', rest, rfl, h1, h2, h3⟩ := h
    cases j with
    | zero => cases hj; exact ⟨v', rfl, rfl, rfl, rfl, rfl, h1, h2⟩
    | succ j =>
      obtain ⟨v, q⟩ := RowIs.get h3 (j := j) (u := u) (by simpa using hj)
      refine ⟨v, ?_⟩
      rw [show (j + 1) * 5 = j * 5 + 5 by omega]
      exact q

/-- 'l = append(l, t)': one term, which lies in a block of its own. -/
theorem wpList_appTm {W : World} {ops : Array Oper} {rest : List Oper} {o : Oper} {a : Act} {Q : Exit → Act → World → Prop} (hgd : o.guard = none) (s x : Operand)
    (ho : o.op = .call { callee := .builtin .append, args := #[s, x], argTypes := #[22, 22] })
    (base : Nat) (v : Value) (n : Nat) (xs : List Value) (hs : a.eval s = v) (hown : W.ownsRow base 24 5 v n xs) (c0 c1 c2 : Int) (c3 : ByteArray) (ao : Option Addr) (m cap : Nat)
    (b : Nat) (hx : a.eval x = .slice (some ⟨b, 0, none⟩) 1 1) (hb : Own W b #[.int .u8 c0, .int .i64 c1, .int .i64 c2, .string c3, .slice ao m cap] 24)
    (h63 : n + 1 ≤ 1000000000) (hbase : base ≤ W.heap.size)
    (h : ∀ ao' cap' w', w'.ownsRow base 24 5 (.slice ao' (n + 1) cap') (n + 1) (xs ++ [.int .u8 c0, .int .i64 c1, .int .i64 c2, .string c3, .slice ao m cap]) → Below base W w' → W.grownBy w' v.ownBlock → wpList Tryz.prog ops Q rest (a.put o.dst (.slice ao' (n + 1) cap')) w') :
    wpList Tryz.prog ops Q (o :: rest) a W := by
  obtain ⟨i8, hi, hz0, hz1, hz2⟩ := info_parts info24
  refine wpList_append_own _ hgd s x 22 ho base 24 i8 _ 5 64 Tryz.underlying22 hi hz0 hz1 hz2 rfl (by omega) v n xs hs hown ⟨b, 0, none⟩ 1 1 [.int .u8 c0, .int .i64 c1, .int .i64 c2, .string c3, .slice ao m cap] hx rfl ?_ ?_ (by unfold maxLen; omega) (by omega) hbase ?_
  · intro j u hu
    have hadd : (⟨b, 0, none⟩ : Addr).add j = ⟨b, j, none⟩ := by unfold Addr.add; split <;> simp_all
    rw [hadd, hb.cell j]
    simpa using hu
  · intro u hu
    simp only [List.mem_cons, List.not_mem_nil, or_false] at hu
    rcases hu with rfl | rfl | rfl | rfl | rfl <;> rfl
  · intro v' w' h1 h2 _
    have hsh : ∃ ao cap, v' = .slice ao (n + 1) cap := by
      rcases h1.2 with ⟨rfl, h0⟩ | ⟨g, cap, cur, rfl, _⟩
      · omega
      · exact ⟨_, _, rfl⟩
    obtain ⟨ao', cap', rfl⟩ := hsh
    exact h ao' cap' w' h1 ((Below.refl _ _).grown h2 hbase fun k hk => (hown.lt k hk).1) h2

def armsP (ks : List Tm) (j : Nat) : List Tm := ((ks.take j).tail.filter fun k => decide (k.op = 11)).map fun k => lastT k.ks
theorem armsP_zero (ks : List Tm) : armsP ks 0 = [] := rfl
theorem armsP_succ (ks : List Tm) (j : Nat) (u : Tm) (h : ks[j]? = some u) : armsP ks (j + 1) = armsP ks j ++ (if 0 < j ∧ u.op = 11 then [lastT u.ks] else []) := by
  have hj : j < ks.length := (List.getElem?_eq_some_iff.1 h).1
  have e : ks.take (j + 1) = ks.take j ++ [u] := by rw [List.take_add_one, h]; rfl
  unfold armsP
  rw [e]
  cases j with
  | zero => simp
  | succ j =>
    have hne : ks.take (j + 1) ≠ [] := by
      intro h0
      have := congrArg List.length h0
      rw [List.length_take] at this
      simp only [List.length_nil] at this
      omega
    rw [List.tail_append_of_ne_nil hne, List.filter_append, List.map_append]
    congr 1
    by_cases h11 : u.op = 11 <;> simp [h11]
theorem armsP_all (ks : List Tm) : armsL ks = armsP ks ks.length ++ [if 2 ≤ ks.length then lastT ks else eb] := by unfold armsL armsP; rw [List.take_length]
theorem armsP_len (ks : List Tm) (j : Nat) : (armsP ks j).length ≤ ks.length := by
  unfold armsP
  rw [List.length_map]
  refine Nat.le_trans (List.length_filter_le _ _) ?_
  rw [List.length_tail, List.length_take]
  omega
theorem kidOf_last (ks : List Tm) : kidOf ks ((ks.length : Int) - 1) = lastT ks := by
  unfold kidOf lastT kidT
  cases hk : ks with
  | nil => rfl
  | cons a l =>
    rw [if_neg (by simp), List.getLast?_eq_getElem?]
    congr 2
    simp
theorem kidOf_dflt (ks : List Tm) : kidOf ks (max 1 ((ks.length : Int) - 1)) = if 2 ≤ ks.length then lastT ks else eb := by
  by_cases h : 2 ≤ ks.length
  · rw [if_pos h, show max (1 : Int) ((ks.length : Int) - 1) = (ks.length : Int) - 1 by omega]
    exact kidOf_last ks
  · rw [if_neg h, show max (1 : Int) ((ks.length : Int) - 1) = 1 by omega]
    unfold kidOf kidT
    rw [if_neg (by omega), List.getElem?_eq_none (by simp; omega)]
    rfl

theorem row_below {w w' : World} {b : Nat} {e : TypeId} {s : Nat} {v : Value} {n : Nat} {xs : List Value} (h : w.ownsRow b e s v n xs) (hb : Below w.heap.size w w') : w'.ownsRow b e s v n xs := by
  obtain ⟨h1, h2⟩ := h
  refine ⟨h1, ?_⟩
  rcases h2 with h2 | ⟨g, cap, cur, rfl, q1, q2, q3⟩
  · exact .inl h2
  · exact .inr ⟨g, cap, cur, rfl, q1, (hb.block g (Array.getElem?_eq_some_iff.1 q2).1).trans q2, q3⟩
theorem ret_sl {w : World} {ao : Option Addr} {n n' cap : Nat} (h : n = n') : Ending.returned (.slice ao n cap) = Ending.returned (.slice ao n' cap) := by rw [h]
structure ArmRel (w0 w : World) (cells : Array Value) (ks : List Tm) (m g : Nat) (lv iv : Value) (wr : World) : Prop where
  ex : ∃ (j : Nat) (ao : Option Addr) (cap : Nat) (xs : List Value), j + g = m ∧ iv = .int .i64 (j : Int) ∧ lv = .slice ao (armsP ks j).length cap ∧ wr.ownsRow (w.heap.size + 1) 24 5 lv (armsP ks j).length xs ∧ RowIs w0 (armsP ks j) xs
  own : Own wr w.heap.size cells 24
  bel : Below w.heap.size w wr

set_option maxRecDepth 100000 in
set_option maxHeartbeats 4000000 in
theorem arms_as {w0 w : World} {op ty n : Int} {tx : ByteArray} {ks : List Tm} {kv : Value} (hk : KidsR w0 kv ks) (hb : Below w0.heap.size w0 w) (hs : cnt.cntL ks ≤ 10000000) (hl : ks.length ≤ 10000000) :
    Calls Tryz.prog 26 #[.agg #[.int .u8 op, .int .i64 ty, .int .i64 n, .string tx, kv]] w fun en w' => ∃ ao cap xs, en = .returned (.slice ao (armsL ks).length cap) ∧ w'.ownsRow (w.heap.size + 1) 24 5 (.slice ao (armsL ks).length cap) (armsL ks).length xs ∧ RowIs w0 (armsL ks) xs ∧ Below w.heap.size w w' := by
  obtain ⟨ao, cap, rfl, hl1, hl2, _⟩ := id hk
  obtain ⟨m, hm⟩ : ∃ m, ks.length = m := ⟨_, rfl⟩
  have HM : Hid (ks.length = m) := hm
  have HK : Hid (KidsR w0 (.slice ao m cap) ks) := by rw [← hm]; exact hk
  have HB : Hid (Below w0.heap.size w0 w) := hb
  rw [hm] at hl1 hl ⊢
  have R0 : ArmRel w0 w #[.int .u8 op, .int .i64 ty, .int .i64 n, .string tx, .slice ao m cap] ks m m (.slice none 0 0) (.int .i64 0) (w.alloc (.cells #[.int .u8 op, .int .i64 ty, .int .i64 n, .string tx, .slice ao m cap] 24)) :=
    ⟨⟨0, none, 0, [], by omega, rfl, rfl, World.ownsRow_nil _ _ _ _, rfl⟩, Own.new w _ _, (Below.refl _ _).alloc (Nat.le_refl _) _⟩
  clear hk hm hb hs
  go_enter Tryz.func26, Tryz.ntmps26
  go_wp2_with fail
  go_loopg [3, 9] m (fun g lv iv wr => ArmRel w0 w #[.int .u8 op, .int .i64 ty, .int .i64 n, .string tx, .slice ao m cap] ks m g lv iv wr)
  case atStart => exact R0
  case round =>
    clear R0
    obtain ⟨⟨j, al, cl, xs, hj, rfl, rfl, hrow, hris⟩, o0, hbw⟩ := hrel
    by_cases hlt : j < m
    · have i1 : (j : Int) < (m : Int) := by omega
      obtain ⟨u, hu⟩ : ∃ u, ks[j]? = some u := ⟨ks[j]'(by rw [HM.out]; exact hlt), List.getElem?_eq_getElem _⟩
      obtain ⟨g2, q2, aj, cj, rfl, hg2, hin, hW⟩ := kids_cells HK.out j u hu
      have hbr : Below w0.heap.size w0 wr := HB.out.trans (hbw.mono HB.out.size)
      obtain ⟨f0, f1, f2, f3, f4, _⟩ := hW wr (fun k hk => hbr.block k hk)
      obtain ⟨_, _, _, _, _, hku⟩ := hW w0 (fun _ _ => rfl)
      have hg2r : g2 < wr.heap.size := Nat.lt_of_lt_of_le hg2 hbr.size
      have HAS : Hid (armsP ks (j + 1) = armsP ks j ++ (if 0 < j ∧ u.op = 11 then [lastT u.ks] else [])) := armsP_succ ks j u hu
      have hal := armsP_len ks j
      rw [HM.out] at hal
      obtain ⟨um, hum⟩ : ∃ um, u.ks.length = um := ⟨_, rfl⟩
      rw [hum] at f4 hku
      have hum2 : um ≤ cj ∧ cj ≤ 9223372036854775807 := by
        obtain ⟨aq, cq, e, h1, h2, _⟩ := hku
        cases e
        exact ⟨by omega, h2⟩
      have hW1 : Below w.heap.size w (wr.alloc (.cells #[.int .u8 u.op, .int .i64 u.ty, .int .i64 u.n, .string u.tx, .slice aj um cj] 24)) := hbw.alloc hbw.size _
      have oA := o0.alloc (.cells #[.int .u8 u.op, .int .i64 u.ty, .int .i64 u.n, .string u.tx, .slice aj um cj] 24)
      have rowA := row_below hrow ((Below.refl _ _).alloc (Nat.le_refl _) (.cells #[.int .u8 u.op, .int .i64 u.ty, .int .i64 u.n, .string u.tx, .slice aj um cj] 24))
      have ol := o0.lt
      have HN : Hid (1 ≤ gk ∧ j + 1 + (gk - 1) = m) := by unfold Hid; omega
      by_cases h11 : 0 < j ∧ u.op = 11
      · have HAS1 : Hid (armsP ks (j + 1) = armsP ks j ++ [lastT u.ks]) := by unfold Hid; rw [HAS.out, if_pos h11]
        have KID := kid_as (op := u.op) (ty := u.ty) (n := u.n) (tx := u.tx) hku (HB.out.trans (hW1.mono HB.out.size)) ((um : Int) - 1) (by omega) (by omega)
        have ekl : kidOf u.ks ((um : Int) - 1) = lastT u.ks := by rw [← hum]; exact kidOf_last u.ks
        unfold kidOf at ekl
        rw [ekl] at KID
        have i2 : (0 : Int) < (j : Int) := by omega
        obtain ⟨_, hop⟩ := h11
        rw [hop] at f0 KID oA hW1 rowA
        obtain ⟨lt, hlt2⟩ : ∃ lt, lastT u.ks = lt := ⟨_, rfl⟩
        rw [hlt2] at KID HAS1
        generalize u.ty = ut at *
        generalize u.n = un at *
        generalize u.tx = ux at *
        have HRS : Hid (RowIs w0 (armsP ks j) xs) := hris
        obtain ⟨pl, hpl⟩ : ∃ pl, (armsP ks j).length = pl := ⟨_, rfl⟩
        have HPL : Hid ((armsP ks j).length = pl) := hpl
        rw [hpl] at hrow rowA hal ⊢
        have HRow : Hid ((wr.alloc (.cells #[.int .u8 11, .int .i64 ut, .int .i64 un, .string ux, .slice aj um cj] 24)).ownsRow (w.heap.size + 1) 24 5 (.slice al pl cl) pl xs) := rowA
        clear hW ekl HAS hris rowA hpl hum hku hu
        go_wp2_with fail
        refine KID.mono ?_
        rintro en w1 ⟨v1, rfl, hv1, hi1, hb1⟩
        obtain ⟨a9, c9, rfl, h91, h92, _⟩ := id hv1
        have HV : Hid (KidsR w0 (.slice a9 lt.ks.length c9) lt.ks ∧ inr lt.n) := ⟨hv1, hi1⟩
        have hs1 := hb1.size
        rw [World.size_alloc] at hs1
        have row1 := row_below HRow.out hb1
        have o1 := oA.below hb1
        have bw1 : Below w.heap.size w w1 := hW1.trans (hb1.mono hW1.size)
        have row2 := row_below row1 ((Below.refl _ _).alloc (Nat.le_refl _) (.cells #[.int .u8 lt.op, .int .i64 lt.ty, .int .i64 lt.n, .string lt.tx, .slice a9 lt.ks.length c9] 24))
        have o2 := o1.alloc (.cells #[.int .u8 lt.op, .int .i64 lt.ty, .int .i64 lt.n, .string lt.tx, .slice a9 lt.ks.length c9] 24)
        have bw2 := bw1.alloc bw1.size (.cells #[.int .u8 lt.op, .int .i64 lt.ty, .int .i64 lt.n, .string lt.tx, .slice a9 lt.ks.length c9] 24)
        clear KID hv1 hi1
        go_wp2_with (at_builtin; refine wpList_appTm rfl (.tmp 21) (.tmp 28) rfl (w.heap.size + 1) _ _ _ rfl row2 _ _ _ _ _ _ _ w1.heap.size rfl (Own.new w1 _ _) (by omega) (by rw [World.size_alloc]; omega) ?_; intro a3 c3 w3 row3 bel3 hg3)
        go_roundg (gk - 1)
        case rel =>
          have hlen : (armsP ks (j + 1)).length = pl + 1 := by rw [HAS1.out, List.length_append, HPL.out]; rfl
          refine ⟨⟨j + 1, a3, c3, _, HN.out.2, by go_num, by rw [hlen], by rw [hlen]; exact row3, by rw [HAS1.out]; exact HRS.out.snoc HV.out.1 HV.out.2⟩, (bel3.block _ (by omega)).trans o2, bw2.trans (bel3.mono (by omega))⟩
        case measure => have := HN.out.1; omega
      · have HAS1 : Hid (armsP ks (j + 1) = armsP ks j) := by unfold Hid; rw [HAS.out, if_neg h11, List.append_nil]
        have HRel : Hid (ArmRel w0 w #[.int .u8 op, .int .i64 ty, .int .i64 n, .string tx, .slice (some ⟨g2, q2, none⟩) m cap] ks m (gk - 1) (.slice al (armsP ks j).length cl) (.int .i64 ((j + 1 : Nat) : Int)) (wr.alloc (.cells #[.int .u8 u.op, .int .i64 u.ty, .int .i64 u.n, .string u.tx, .slice aj um cj] 24))) :=
          ⟨⟨j + 1, al, cl, xs, HN.out.2, rfl, by rw [HAS1.out], by rw [HAS1.out]; exact rowA, by rw [HAS1.out]; exact hris⟩, oA, hW1⟩
        obtain ⟨pl, hpl⟩ : ∃ pl, (armsP ks j).length = pl := ⟨_, rfl⟩
        rw [hpl] at HRel hrow rowA hal ⊢
        clear hW HAS hris rowA hpl hku hu HAS1
        by_cases hj0 : j = 0
        · have i2 : ¬ ((0 : Int) < (j : Int)) := by omega
          clear h11 hj0
          go_wp2
          go_roundg (gk - 1)
          case rel => exact HRel.out
          case measure => have := HN.out.1; omega
        · have hop : (u.op == 11) = false := by
            have : ¬ u.op = 11 := fun e => h11 ⟨by omega, e⟩
            simpa using this
          have i2 : (0 : Int) < (j : Int) := by omega
          clear h11
          go_wp2
          go_roundg (gk - 1)
          case rel => exact HRel.out
          case measure => have := HN.out.1; omega
    · have i1 : ¬ ((j : Int) < (m : Int)) := by omega
      have hjm : j = m := by omega
      subst hjm
      have KID := kid_as (op := op) (ty := ty) (n := n) (tx := tx) HK.out (HB.out.trans (hbw.mono HB.out.size)) (max 1 ((j : Int) - 1)) (by omega) (by omega)
      have ekl : kidOf ks (max 1 ((j : Int) - 1)) = if 2 ≤ ks.length then lastT ks else eb := by rw [← HM.out]; exact kidOf_dflt ks
      unfold kidOf at ekl
      rw [ekl] at KID
      obtain ⟨lt, hlt2⟩ : ∃ lt, (if 2 ≤ ks.length then lastT ks else eb) = lt := ⟨_, rfl⟩
      have HAL : Hid (armsL ks = armsP ks j ++ [lt]) := by unfold Hid; rw [armsP_all, HM.out, ← hlt2, HM.out]
      rw [hlt2] at KID
      have HRS : Hid (RowIs w0 (armsP ks j) xs) := hris
      have hal := armsP_len ks j
      rw [HM.out] at hal
      obtain ⟨pl, hpl⟩ : ∃ pl, (armsP ks j).length = pl := ⟨_, rfl⟩
      have HPL : Hid ((armsP ks j).length = pl) := hpl
      rw [hpl] at hrow hal ⊢
      have HRow : Hid (wr.ownsRow (w.heap.size + 1) 24 5 (.slice al pl cl) pl xs) := hrow
      obtain ⟨d0, d1, d2, d3, d4, _⟩ := o0.five
      have ol := o0.lt
      clear ekl hris hpl hrow hlt2
      by_cases hj2 : (j : Int) - 1 ≤ 1
      · have imx : max (1 : Int) ((j : Int) - 1) = 1 := by omega
        rw [imx] at KID
        go_wp2_with fail
        refine KID.mono ?_
        rintro en w1 ⟨v1, rfl, hv1, hi1, hb1⟩
        obtain ⟨a9, c9, rfl, h91, h92, _⟩ := id hv1
        have HV : Hid (KidsR w0 (.slice a9 lt.ks.length c9) lt.ks ∧ inr lt.n) := ⟨hv1, hi1⟩
        have hs1 := hb1.size
        have row1 := row_below HRow.out hb1
        have bw1 : Below w.heap.size w w1 := hbw.trans (hb1.mono hbw.size)
        have row2 := row_below row1 ((Below.refl _ _).alloc (Nat.le_refl _) (.cells #[.int .u8 lt.op, .int .i64 lt.ty, .int .i64 lt.n, .string lt.tx, .slice a9 lt.ks.length c9] 24))
        have bw2 := bw1.alloc bw1.size (.cells #[.int .u8 lt.op, .int .i64 lt.ty, .int .i64 lt.n, .string lt.tx, .slice a9 lt.ks.length c9] 24)
        clear KID hv1 hi1
        go_wp2_with (at_builtin; refine wpList_appTm rfl (.tmp 31) (.tmp 39) rfl (w.heap.size + 1) _ _ _ rfl row2 _ _ _ _ _ _ _ w1.heap.size rfl (Own.new w1 _ _) (by omega) (by rw [World.size_alloc]; omega) ?_; intro a3 c3 w3 row3 bel3 hg3)
        go_ret
        have hlen : (armsL ks).length = pl + 1 := by rw [HAL.out, List.length_append, HPL.out]; rfl
        rw [hlen]
        exact ⟨a3, c3, _, rfl, row3, by rw [HAL.out]; exact HRS.out.snoc HV.out.1 HV.out.2, bw2.trans (bel3.mono (by omega))⟩
      · have imx : max (1 : Int) ((j : Int) - 1) = (j : Int) - 1 := by omega
        rw [imx] at KID
        go_wp2_with fail
        refine KID.mono ?_
        rintro en w1 ⟨v1, rfl, hv1, hi1, hb1⟩
        obtain ⟨a9, c9, rfl, h91, h92, _⟩ := id hv1
        have HV : Hid (KidsR w0 (.slice a9 lt.ks.length c9) lt.ks ∧ inr lt.n) := ⟨hv1, hi1⟩
        have hs1 := hb1.size
        have row1 := row_below HRow.out hb1
        have bw1 : Below w.heap.size w w1 := hbw.trans (hb1.mono hbw.size)
        have row2 := row_below row1 ((Below.refl _ _).alloc (Nat.le_refl _) (.cells #[.int .u8 lt.op, .int .i64 lt.ty, .int .i64 lt.n, .string lt.tx, .slice a9 lt.ks.length c9] 24))
        have bw2 := bw1.alloc bw1.size (.cells #[.int .u8 lt.op, .int .i64 lt.ty, .int .i64 lt.n, .string lt.tx, .slice a9 lt.ks.length c9] 24)
        clear KID hv1 hi1
        go_wp2_with (at_builtin; refine wpList_appTm rfl (.tmp 31) (.tmp 39) rfl (w.heap.size + 1) _ _ _ rfl row2 _ _ _ _ _ _ _ w1.heap.size rfl (Own.new w1 _ _) (by omega) (by rw [World.size_alloc]; omega) ?_; intro a3 c3 w3 row3 bel3 hg3)
        go_ret
        have hlen : (armsL ks).length = pl + 1 := by rw [HAL.out, List.length_append, HPL.out]; rfl
        rw [hlen]
        exact ⟨a3, c3, _, rfl, row3, by rw [HAL.out]; exact HRS.out.snoc HV.out.1 HV.out.2, bw2.trans (bel3.mono (by omega))⟩
end Go.Proofs.YtepadfcjjcionaaGreatDoor
