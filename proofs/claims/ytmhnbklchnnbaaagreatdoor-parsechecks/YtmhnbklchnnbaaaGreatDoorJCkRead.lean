import Derived.Test.YtmhnbklchnnbaaaGreatDoorJModel
import Derived.Test.YtmhnbklchnnbaaaGreatDoorJPNode
import Derived.Deep.LoopGhost
import Derived.Maps.AppendAt
set_option maxHeartbeats 2000000
set_option maxRecDepth 100000
namespace Go.Proofs.YtmhnbklchnnbaaaGreatDoor
open Go.RowKit
set_option linter.unusedVariables false
def CellsR (w : World) : List Tree → Array Value → Nat → Prop
  | [], _, _ => True
  | ⟨k, a, tx, n, ks⟩ :: ts, cs, o => (∃ ao cap, cs[o]? = some (.int .u8 (k : Int)) ∧ cs[o + 1]? = some (.int .i64 a) ∧ cs[o + 2]? = some (.string (strN tx)) ∧ cs[o + 3]? = some (.int .u64 (n : Int)) ∧ cs[o + 4]? = some (.slice ao ks.length cap) ∧ ks.length ≤ cap ∧ cap ≤ 9223372036854775807 ∧
      (ks = [] ∨ ∃ g o' cs' T fr, ao = some ⟨g, o', none⟩ ∧ w.heap[g]? = some (.cells cs' T fr) ∧ CellsR w ks cs' o')) ∧ CellsR w ts cs (o + 5)
theorem cellsR_cons {w : World} {k : Nat} {a : Int} {tx : List Nat} {n : Nat} {ks ts : List Tree} {cs : Array Value} {o : Nat} : CellsR w (⟨k, a, tx, n, ks⟩ :: ts) cs o ↔ (∃ ao cap, cs[o]? = some (.int .u8 (k : Int)) ∧ cs[o + 1]? = some (.int .i64 a) ∧ cs[o + 2]? = some (.string (strN tx)) ∧ cs[o + 3]? = some (.int .u64 (n : Int)) ∧ cs[o + 4]? = some (.slice ao ks.length cap) ∧ ks.length ≤ cap ∧ cap ≤ 9223372036854775807 ∧
      (ks = [] ∨ ∃ g o' cs' T fr, ao = some ⟨g, o', none⟩ ∧ w.heap[g]? = some (.cells cs' T fr) ∧ CellsR w ks cs' o')) ∧ CellsR w ts cs (o + 5) := by rw [CellsR]
def KidsR (w : World) (v : Value) (ts : List Tree) : Prop := ∃ ao cap, v = .slice ao ts.length cap ∧ ts.length ≤ cap ∧ cap ≤ 9223372036854775807 ∧ (ts = [] ∨ ∃ g o cs T fr, ao = some ⟨g, o, none⟩ ∧ w.heap[g]? = some (.cells cs T fr) ∧ CellsR w ts cs o)
def NodeR (w : World) (t : Tree) (k a : Int) (b : ByteArray) (n : Int) (v : Value) : Prop := k = (t.kind : Int) ∧ a = t.at_ ∧ b = strN t.text ∧ n = (t.n : Int) ∧ KidsR w v t.kids
theorem CellsR.on {w w' : World} (hk : ∀ (g : Nat), g < w.heap.size → w'.heap[g]? = w.heap[g]?) : ∀ (ts : List Tree) (cs : Array Value) (o : Nat), CellsR w ts cs o → CellsR w' ts cs o := by
  intro ts
  induction ts using treeRec with
  | h0 => intro cs o h; simp [CellsR]
  | h1 k a t n ks ts ih1 ih2 =>
    intro cs o h
    rw [cellsR_cons] at h ⊢
    obtain ⟨⟨ao, cap, c0, c1, c2, c3, c4, h1, h2, h3⟩, h4⟩ := h
    refine ⟨⟨ao, cap, c0, c1, c2, c3, c4, h1, h2, ?_⟩, ih2 cs _ h4⟩
    rcases h3 with h3 | ⟨g, o', cs', T, fr, rfl, hg, hc⟩
    · exact .inl h3
    · exact .inr ⟨g, o', cs', T, fr, rfl, (hk g (Array.getElem?_eq_some_iff.1 hg).1).trans hg, ih1 cs' o' hc⟩
theorem KidsR.on {w w' : World} {v : Value} {ts : List Tree} (h : KidsR w v ts) (hk : ∀ (g : Nat), g < w.heap.size → w'.heap[g]? = w.heap[g]?) : KidsR w' v ts := by
  obtain ⟨ao, cap, rfl, h1, h2, h3⟩ := h
  refine ⟨ao, cap, rfl, h1, h2, ?_⟩
  rcases h3 with h3 | ⟨g, o, cs, T, fr, rfl, hg, hc⟩
  · exact .inl h3
  · exact .inr ⟨g, o, cs, T, fr, rfl, (hk g (Array.getElem?_eq_some_iff.1 hg).1).trans hg, CellsR.on hk _ _ _ hc⟩
theorem KidsR.below {w w' : World} {v : Value} {ts : List Tree} (h : KidsR w v ts) (hb : Below w.heap.size w w') : KidsR w' v ts := h.on fun g hg => hb.block g hg
theorem NodeR.below {w w' : World} {t : Tree} {k a : Int} {b : ByteArray} {n : Int} {v : Value} (h : NodeR w t k a b n v) (hb : Below w.heap.size w w') : NodeR w' t k a b n v := ⟨h.1, h.2.1, h.2.2.1, h.2.2.2.1, h.2.2.2.2.below hb⟩
theorem cells_rd {w : World} : ∀ (ts : List Tree) (xs : List Value) (F : List Nat), Cells w ts xs F → ∀ (cs : Array Value) (o : Nat), (∀ j, j < xs.length → cs[o + j]? = xs[j]?) → CellsR w ts cs o := by
  intro ts
  induction ts using treeRec with
  | h0 => intro xs F h cs o hc; simp [CellsR]
  | h1 k a t n ks ts ih1 ih2 =>
    intro xs F h cs o hc
    rw [cells_cons] at h
    obtain ⟨v, ys, rest, F0, F1, F2, rfl, rfl, h1, h2, h3⟩ := h
    rw [cellsR_cons]
    have hl : (Value.int .u8 (k : Int) :: .int .i64 a :: .string (strN t) :: .int .u64 (n : Int) :: v :: rest).length = rest.length + 5 := by simp
    have c : ∀ j, j < 5 → cs[o + j]? = (Value.int .u8 (k : Int) :: .int .i64 a :: .string (strN t) :: .int .u64 (n : Int) :: v :: rest)[j]? := fun j hj => hc j (by omega)
    refine ⟨?_, ih2 rest F2 h3 cs (o + 5) fun j hj => ?_⟩
    · have hv : ∃ ao cap, v = .slice ao ks.length cap ∧ ks.length ≤ cap ∧ cap ≤ 9223372036854775807 ∧ (ks = [] ∨ ∃ g o' cs' T fr, ao = some ⟨g, o', none⟩ ∧ w.heap[g]? = some (.cells cs' T fr) ∧ CellsR w ks cs' o') := by
        rcases h1.2 with ⟨rfl, h0, _⟩ | ⟨g, cap, cur, rfl, _, ho, r1, r2, r3, r4⟩
        · exact ⟨none, 0, by rw [h0], by omega, by omega, .inl (List.eq_nil_of_length_eq_zero h0)⟩
        · refine ⟨_, cap, rfl, r1, by unfold maxLen at r2; omega, .inr ⟨g, 0, cur, 25, (0, 0), rfl, ho, ih1 ys F1 h2 cur 0 fun j hj => ?_⟩⟩
          rw [h1.1] at hj
          rw [Nat.zero_add, ← r4, List.getElem?_take, if_pos hj, Array.getElem?_toList]
      obtain ⟨ao, cap, rfl, h5, h6, h7⟩ := hv
      exact ⟨ao, cap, c 0 (by omega), c 1 (by omega), c 2 (by omega), c 3 (by omega), c 4 (by omega), h5, h6, h7⟩
    · have := hc (5 + j) (by omega)
      rw [show o + 5 + j = o + (5 + j) by omega, this]
      rw [show 5 + j = j + 5 by omega]
      rfl
theorem Row.rd {w : World} {B : Nat} {v : Value} {ts : List Tree} (h : Row w B v ts) : KidsR w v ts := by
  obtain ⟨xs, F0, F1, h1, h2, _⟩ := h
  rcases h1.2 with ⟨rfl, h0, _⟩ | ⟨g, cap, cur, rfl, _, ho, r1, r2, r3, r4⟩
  · exact ⟨none, 0, by rw [h0], by omega, by omega, .inl (List.eq_nil_of_length_eq_zero h0)⟩
  · refine ⟨_, cap, rfl, r1, by unfold maxLen at r2; omega, .inr ⟨g, 0, cur, 25, (0, 0), rfl, ho, cells_rd _ _ _ h2 cur 0 fun j hj => ?_⟩⟩
    rw [h1.1] at hj
    rw [Nat.zero_add, ← r4, List.getElem?_take, if_pos hj, Array.getElem?_toList]
theorem NodeIs.rd {w : World} {B : Nat} {t : Tree} {k a : Int} {b : ByteArray} {n : Int} {v : Value} (h : NodeIs w B t k a b n v) : NodeR w t k a b n v := ⟨h.1, h.2.1, h.2.2.1, h.2.2.2.1, h.2.2.2.2.rd⟩
theorem cellsR_at {w : World} : ∀ (ts : List Tree) (cs : Array Value) (o : Nat), CellsR w ts cs o → ∀ (i : Nat) (t : Tree), ts[i]? = some t → ∃ ao cap, cs[o + i * 5]? = some (.int .u8 (t.kind : Int)) ∧ cs[o + i * 5 + 1]? = some (.int .i64 t.at_) ∧ cs[o + i * 5 + 2]? = some (.string (strN t.text)) ∧ cs[o + i * 5 + 3]? = some (.int .u64 (t.n : Int)) ∧ cs[o + i * 5 + 4]? = some (.slice ao t.kids.length cap) ∧ KidsR w (.slice ao t.kids.length cap) t.kids := by
  intro ts
  induction ts with
  | nil => intro cs o h i t ht; simp at ht
  | cons t0 ts ih =>
    intro cs o h i t ht
    obtain ⟨k, a, tx, n, ks⟩ := t0
    rw [cellsR_cons] at h
    obtain ⟨⟨ao, cap, c0, c1, c2, c3, c4, h1, h2, h3⟩, h4⟩ := h
    cases i with
    | zero =>
      simp only [List.getElem?_cons_zero, Option.some.injEq] at ht
      subst ht
      exact ⟨ao, cap, by simpa using c0, by simpa using c1, by simpa using c2, by simpa using c3, by simpa using c4, ao, cap, rfl, h1, h2, h3⟩
    | succ i =>
      rw [List.getElem?_cons_succ] at ht
      have := ih cs (o + 5) h4 i t ht
      rw [show o + 5 + i * 5 = o + (i + 1) * 5 by omega] at this
      exact this
def sumC : List (List Tree) → Nat
  | [] => 0
  | ks :: st => cntT.cntL ks + sumC st
theorem sumC_app (a b : List (List Tree)) : sumC (a ++ b) = sumC a + sumC b := by
  induction a with
  | nil => simp [sumC]
  | cons x a ih => simp [sumC, ih]; omega
theorem cnt_one (t : Tree) : cntT t = 1 + cntT.cntL t.kids := by obtain ⟨k, a, x, n, ks⟩ := t; rw [cntT]
theorem cnt_kids : ∀ (ts : List Tree), cntT.cntL ts = ts.length + sumC (ts.map Tree.kids) := by
  intro ts
  induction ts with
  | nil => simp [cntT.cntL, sumC]
  | cons t ts ih => rw [cntT.cntL, cnt_one, ih]; simp [sumC]; omega
theorem infoS : (Tryz.prog.info? 23).map (fun i => (i.zero, i.size, i.bytes)) = some (some (.slice none 0 0), 1, 24) := by kernel_rfl
theorem below_grown {B : Nat} {w W w' : World} {row : Option Nat} (h : Below B w W) (hg : W.grownBy w' row) (hr : ∀ k, row = some k → B ≤ k) (hB : B ≤ w.heap.size) : Below B w w' :=
  ⟨hg.os.trans h.os, hg.tape.trans h.tape, hg.output.trans h.output, Nat.le_trans h.size hg.size, fun k hk => (hg.block k (Nat.lt_of_lt_of_le (Nat.lt_of_lt_of_le hk hB) h.size) (fun e => by have := hr k e.symm; omega)).trans (h.block k hk)⟩
theorem wpList_appS {W : World} {ops : Array Oper} {rest : List Oper} {o : Oper} {a : Act} {Q : Exit → Act → World → Prop} (hgd : o.guard = none) (s x : Operand)
    (ho : o.op = .call { callee := .builtin .append, args := #[s, x], argTypes := #[42, 42] })
    (B : Nat) (v : Value) (n : Nat) (xs : List Value) (hs : a.eval s = v) (hown : W.ownsRow B 23 1 v n xs) (b : Nat) (u : Value) (hx : a.eval x = .slice (some ⟨b, 0, none⟩) 1 1) (hb : W.cell? ⟨b, 0, none⟩ = some u) (hu : u.oneCell' = true)
    (h63 : n + 1 ≤ 1000000000) (hbase : B ≤ W.heap.size)
    (h : ∀ v' w', w'.ownsRow B 23 1 v' (n + 1) (xs ++ [u]) → W.grownBy w' v.ownBlock → (∀ k, v.ownBlock = some k → B ≤ k) → wpList Tryz.prog ops Q rest (a.put o.dst v') w') :
    wpList Tryz.prog ops Q (o :: rest) a W := by
  obtain ⟨i8, hi, hz0, hz1, hz2⟩ := info_parts infoS
  refine wpList_append_own_at _ hgd s x 42 ho B 23 i8 _ 1 24 Tryz.underlying42 hi hz0 hz1 hz2 rfl (by omega) v n xs hs hown ⟨b, 0, none⟩ 1 1 [u] hx rfl ?_ ?_ (by unfold maxLen; omega) (by omega) hbase ?_
  · intro j u' hj
    cases j with
    | zero => cases hj; exact hb
    | succ j => cases hj
  · intro u' hu'
    rw [List.mem_singleton.1 hu']; exact hu
  · intro v' w' h1 h2 _ _
    exact h v' w' h1 h2 fun k hk => (hown.lt k hk).1
def StackR (w : World) (st : List (List Tree)) (xs : List Value) : Prop := ∀ (i : Nat) (ks : List Tree), st[i]? = some ks → ∃ v, xs[i]? = some v ∧ KidsR w v ks
theorem StackR.snoc {w : World} {st : List (List Tree)} {xs : List Value} (h : StackR w st xs) (hl : xs.length = st.length) {ks : List Tree} {v : Value} (hv : KidsR w v ks) : StackR w (st ++ [ks]) (xs ++ [v]) := by
  intro i l hi
  by_cases hlt : i < st.length
  · rw [List.getElem?_append_left hlt] at hi
    obtain ⟨u, h1, h2⟩ := h i l hi
    exact ⟨u, by rw [List.getElem?_append_left (by omega)]; exact h1, h2⟩
  · rw [List.getElem?_append_right (by omega)] at hi
    have : i - st.length = 0 := by
      cases hq : i - st.length with
      | zero => rfl
      | succ q => rw [hq] at hi; simp at hi
    rw [this] at hi
    cases hi
    exact ⟨v, by rw [List.getElem?_append_right (by omega), hl, this]; rfl, hv⟩
theorem StackR.pre {w : World} {st : List (List Tree)} {xs : List Value} {ks : List Tree} {v : Value} (h : StackR w (st ++ [ks]) (xs ++ [v])) (hl : xs.length = st.length) : StackR w st xs := by
  intro i l hi
  have hlt : i < st.length := (List.getElem?_eq_some_iff.1 hi).1
  obtain ⟨u, h1, h2⟩ := h i l (by rw [List.getElem?_append_left hlt]; exact hi)
  rw [List.getElem?_append_left (by omega)] at h1
  exact ⟨u, h1, h2⟩
def SmallRel (w : World) (res : Bool) (g : Nat) (lv tv : Value) (wr : World) : Prop := ∃ (left : Nat) (st : List (List Tree)) (xs : List Value), lv = .int .i64 (left : Int) ∧ left ≤ 65535 ∧ wr.ownsRow w.heap.size 23 1 tv st.length xs ∧ StackR w st xs ∧ Below w.heap.size w wr ∧ decide (sumC st ≤ left) = res ∧ g = sumC st + st.length ∧ st.length + left ≤ 65536
def PushRel (w : World) (st : List (List Tree)) (ks : List Tree) (tv iv : Value) (wr : World) : Prop := ∃ (j : Nat) (xs : List Value), j ≤ ks.length ∧ iv = .int .i64 (j : Int) ∧ wr.ownsRow w.heap.size 23 1 tv (st.length + j) xs ∧ StackR w (st ++ (ks.take j).map Tree.kids) xs ∧ Below w.heap.size w wr
theorem pisSmall_as (w : World) (t : Tree) (k a : Int) (b : ByteArray) (n : Int) (v : Value) (hN : NodeR w t k a b n v) : Calls Tryz.prog 10 #[.agg #[.int .u8 k, .int .i64 a, .string b, .int .u64 n, v]] w fun en w' => en = .returned (.bool (decide (cntT t ≤ 65536))) ∧ Below w.heap.size w w' := by
  have hkid := hN.2.2.2.2
  obtain ⟨ao, cap, rfl, hc1, hc2, hc3⟩ := id hkid
  obtain ⟨res, hres⟩ : ∃ res, decide (cntT t ≤ 65536) = res := ⟨_, rfl⟩
  have HRES : Hid (decide (sumC [t.kids] ≤ 65535) = res) := by
    unfold Hid
    have e : cntT t = 1 + sumC [t.kids] := by rw [cnt_one]; simp [sumC]
    rw [← hres, Bool.eq_iff_iff]
    simp only [decide_eq_true_eq]
    omega
  rw [hres]
  have HK : Hid (KidsR w (.slice ao t.kids.length cap) t.kids) := hkid
  obtain ⟨m, hm⟩ : ∃ m, Hid (t.kids.length = m) := ⟨_, rfl⟩
  have HK2 : Hid (KidsR w (.slice ao m cap) t.kids) := by unfold Hid; rw [← hm.out]; exact hkid
  rw [hm.out]
  clear hkid hN hres HK hc1 hc3
  go_enter Tryz.func10, Tryz.ntmps10
  go_wp2_with fail
  have hown0 : ((w.alloc (.cells #[.int .u8 k, .int .i64 a, .string b, .int .u64 n, .slice ao m cap] 25)).alloc (.cells #[.slice ao m cap] 23)).ownsRow w.heap.size 23 1 (.slice (some ⟨w.heap.size + 1, 0, none⟩) 1 1) [t.kids].length [.slice ao m cap] := by
    refine ⟨rfl, .inr ⟨w.heap.size + 1, 1, #[.slice ao m cap], rfl, by omega, ?_, Nat.le_refl _, by unfold maxLen; omega, rfl, rfl⟩⟩
    have := heap_alloc_new (w.alloc (.cells #[.int .u8 k, .int .i64 a, .string b, .int .u64 n, .slice ao m cap] 25)) (.cells #[.slice ao m cap] 23)
    rw [World.size_alloc] at this
    exact this
  have hst0 : StackR w [t.kids] [.slice ao m cap] := by
    intro i ks hi
    cases i with
    | zero => cases hi; exact ⟨_, rfl, HK2.out⟩
    | succ i => cases hi
  have hb0 : Below w.heap.size w ((w.alloc (.cells #[.int .u8 k, .int .i64 a, .string b, .int .u64 n, .slice ao m cap] 25)).alloc (.cells #[.slice ao m cap] 23)) := ((Below.refl _ _).alloc (Nat.le_refl _) _).alloc (by rw [World.size_alloc]; omega) _
  go_loopg [3, 4] (sumC [t.kids] + 1) (fun g lv tv wr => SmallRel w res g lv tv wr)
  case atStart => exact ⟨65535, [t.kids], [.slice ao m cap], rfl, by omega, hown0, hst0, hb0, HRES.out, rfl, by simp⟩
  case round =>
    clear hown0 hst0 hb0 HRES
    obtain ⟨left, st, xs, rfl, hl, hown, hst, hb, hre, hg, hlen⟩ := hrel
    rcases List.eq_nil_or_concat st with rfl | ⟨st', ks, rfl⟩
    · have hr : res = true := by rw [← hre]; simp [sumC]
      subst hr
      have hsh : ∃ ao cap, u4 = .slice ao 0 cap := by
        rcases hown.2 with ⟨rfl, _⟩ | ⟨g, cap, cur, rfl, _⟩
        · exact ⟨_, _, rfl⟩
        · exact ⟨_, _, rfl⟩
      obtain ⟨ao4, cap4, rfl⟩ := hsh
      clear hown hst hre hg
      go_wp2
      go_ret
      exact ⟨rfl, hb⟩
    · rw [List.concat_eq_append] at *
      have hll : (st' ++ [ks]).length = st'.length + 1 := by simp
      rw [hll] at hown hg hlen
      obtain ⟨hxl, hown2⟩ := hown
      rcases hown2 with ⟨_, h0⟩ | ⟨g4, cap4, cur, rfl, hg4, ho, r1, r2, r3, r4⟩
      · omega
      · obtain ⟨p, hp⟩ : ∃ p, st'.length = p := ⟨_, rfl⟩
        obtain ⟨vk, hvk, hkr⟩ := hst p ks (by rw [← hp]; simp)
        obtain ⟨aok, capk, rfl, hk1, hk2, hk3⟩ := id hkr
        have hxs : ∃ ys, xs = ys ++ [.slice aok ks.length capk] ∧ ys.length = p := by
          refine ⟨xs.take p, ?_, by rw [List.length_take]; omega⟩
          have hd : xs.drop p = [xs[p]'(by omega)] := by
            rw [List.drop_eq_getElem_cons (by omega)]
            rw [List.drop_of_length_le (by omega)]
          rw [List.getElem?_eq_getElem (by omega)] at hvk
          rw [Option.some.inj hvk] at hd
          exact (List.take_append_drop p xs).symm.trans (by rw [hd])
        obtain ⟨ys, rfl, hyl⟩ := hxs
        have hst2 := hst.pre (by rw [hyl, hp])
        have hcell : wr.cell? ⟨g4, p, none⟩ = some (.slice aok ks.length capk) := by
          rw [cell_of_row _ g4 p _ _ _ ho, ← Array.getElem?_toList]
          have : (cur.toList.take ((p + 1) * 1))[p]? = some (.slice aok ks.length capk) := by
            rw [← hp, r4, List.getElem?_append_right (by omega)]
            rw [hyl, hp, Nat.sub_self]; rfl
          rw [List.getElem?_take, if_pos (by omega)] at this
          exact this
        have hg4b : g4 < wr.heap.size := (Array.getElem?_eq_some_iff.1 ho).1
        have hown3 : wr.ownsRow w.heap.size 23 1 (.slice (some ⟨g4, 0, none⟩) p cap4) p ys := by
          refine ⟨by omega, .inr ⟨g4, cap4, cur, rfl, hg4, ho, by omega, r2, r3, ?_⟩⟩
          have e2 : List.take p (ys ++ [.slice aok ks.length capk]) = ys := by rw [List.take_append_of_le_length (by omega), List.take_of_length_le (by omega)]
          have := congrArg (List.take p) r4
          rw [e2, List.take_take, show min p ((st'.length + 1) * 1) = p * 1 by omega] at this
          exact this
        rw [hp] at hg hlen r1 ⊢
        obtain ⟨q, hq⟩ : ∃ q, Hid (ks.length = q) := ⟨_, rfl⟩
        have hsum : sumC (st' ++ [ks]) = sumC st' + ks.length + sumC (ks.map Tree.kids) := by rw [sumC_app]; simp only [sumC]; rw [cnt_kids]; omega
        have HRE : Hid (decide (sumC (st' ++ [ks]) ≤ left) = res) := hre
        have HGG : Hid (gk = sumC (st' ++ [ks]) + (p + 1)) := hg
        have HKS : Hid (KidsR w (.slice aok ks.length capk) ks) := hkr
        have HO3 : Hid (wr.ownsRow w.heap.size 23 1 (.slice (some ⟨g4, 0, none⟩) p cap4) p ys) := hown3
        have HS2 : Hid (StackR w st' ys) := hst2
        have hcap4 : cap4 ≤ 9223372036854775807 := by unfold maxLen at r2; omega
        clear hre hg hkr hown3 hst2 ho r3 r4 hst hvk hxl hk3 hll
        by_cases hgt : left < ks.length
        · have hr : res = false := by rw [← HRE.out, hsum, decide_eq_false_iff_not]; omega
          subst hr
          rw [hq.out] at hcell hgt hk1
          have hgt2 : (left : Int) < (q : Int) := by omega
          clear HRE HGG hsum
          go_wp2
          go_ret
          exact ⟨rfl, hb⟩
        · have hgt2 : ¬ ((left : Int) < (q : Int)) := by rw [← hq.out]; omega
          rw [hq.out] at hcell hk1
          have hql : q ≤ left := by rw [← hq.out]; omega
          have hsub : (left : Int) - (q : Int) = ((left - q : Nat) : Int) := by omega
          go_wp2_with fail
          clear hsub hgt2 hcell
          go_loopw [4, 35] (fun tv iv wr => PushRel w st' ks tv iv wr) (fun _ iv _ => ks.length - (intOf iv).toNat)
          case atStart => exact ⟨0, ys, Nat.zero_le _, rfl, by rw [hp, Nat.add_zero]; exact HO3.out, by simpa using HS2.out, hb⟩
          case round =>
            obtain ⟨j, zs, hj, rfl, hown, hst, hb2⟩ := hrel
            have HST : Hid (StackR w (st' ++ (ks.take j).map Tree.kids) zs) := hst
            have hzl : zs.length = st'.length + j := by have := hown.1; omega
            by_cases hjl : j < ks.length
            · have hkj : ks[j]? = some ks[j] := List.getElem?_eq_getElem hjl
              obtain ⟨aq, cq, eq, _, _, hk4⟩ := HKS.out
              cases eq
              rcases hk4 with hk4 | ⟨g2, o2, cs2, T2, fr2, rfl, hg2, hcr⟩
              · rw [hk4] at hjl; simp at hjl
              · obtain ⟨aj, cj, d0, d1, d2, d3, d4, hkk⟩ := cellsR_at _ _ _ hcr j _ hkj
                have hg2b : g2 < w.heap.size := (Array.getElem?_eq_some_iff.1 hg2).1
                have hg2w : wr.heap[g2]? = some (.cells cs2 T2 fr2) := (hb2.block g2 hg2b).trans hg2
                have f0 := (cell_of_row _ g2 (o2 + j * 5) _ _ _ hg2w).trans d0
                have f1 := (cell_of_row _ g2 (o2 + j * 5 + 1) _ _ _ hg2w).trans d1
                have f2 := (cell_of_row _ g2 (o2 + j * 5 + 2) _ _ _ hg2w).trans d2
                have f3 := (cell_of_row _ g2 (o2 + j * 5 + 3) _ _ _ hg2w).trans d3
                have f4 := (cell_of_row _ g2 (o2 + j * 5 + 4) _ _ _ hg2w).trans d4
                have hg2r : g2 < wr.heap.size := Nat.lt_of_lt_of_le hg2b hb2.size
                have HKK : Hid (KidsR w (.slice aj ks[j].kids.length cj) ks[j].kids) := hkk
                obtain ⟨tj, htj⟩ : ∃ tj, ks[j] = tj := ⟨_, rfl⟩
                rw [htj] at f0 f1 f2 f3 f4 HKK hkj
                have HKJ : Hid (ks[j]? = some tj) := hkj
                have hjq : (j : Int) < (q : Int) := by rw [← hq.out]; omega
                have hjq2 : j < q := by rw [← hq.out]; exact hjl
                obtain ⟨X, hX⟩ : ∃ X, X = ((wr.alloc (.cells #[.int .u8 (tj.kind : Int), .int .i64 tj.at_, .string (strN tj.text), .int .u64 (tj.n : Int), .slice aj tj.kids.length cj] 25)).alloc (.cells #[.slice aj tj.kids.length cj] 23)) := ⟨_, rfl⟩
                have hXb : Below wr.heap.size wr X := by rw [hX]; exact ((Below.refl _ _).alloc (Nat.le_refl _) _).alloc (by rw [World.size_alloc]; omega) _
                have hXc : X.cell? ⟨wr.heap.size + 1, 0, none⟩ = some (.slice aj tj.kids.length cj) := by
                  rw [hX]
                  have := heap_alloc_new (wr.alloc (.cells #[.int .u8 (tj.kind : Int), .int .i64 tj.at_, .string (strN tj.text), .int .u64 (tj.n : Int), .slice aj tj.kids.length cj] 25)) (.cells #[.slice aj tj.kids.length cj] 23)
                  rw [World.size_alloc] at this
                  exact cell_of_row _ _ 0 _ _ _ this
                have hXo : X.ownsRow w.heap.size 23 1 u4 (st'.length + j) zs := by
                  refine ⟨hown.1, ?_⟩
                  rcases hown.2 with h | ⟨g5, c5, cur5, e5, h5, o5, r5⟩
                  · exact .inl h
                  · exact .inr ⟨g5, c5, cur5, e5, h5, (hXb.block g5 (Array.getElem?_eq_some_iff.1 o5).1).trans o5, r5⟩
                have hB : w.heap.size ≤ X.heap.size := Nat.le_trans hb2.size hXb.size
                have hb3 : Below w.heap.size w X := hb2.trans (hXb.mono hb2.size)
                have hsl : ∃ ao4 cap4, u4 = .slice ao4 (st'.length + j) cap4 := by
                  rcases hown.2 with ⟨rfl, h0⟩ | ⟨g5, c5, cur5, rfl, _⟩
                  · exact ⟨_, _, by rw [h0]⟩
                  · exact ⟨_, _, rfl⟩
                have h63 : st'.length + j + 1 ≤ 1000000000 := by omega
                clear htj hst hown hkk hkj d0 d1 d2 d3 d4 hg2 hcr hg2w hXb
                go_wp2_with (at_builtin; refine wpList_appS rfl (.tmp 39) (.tmp 42) rfl w.heap.size u4 (st'.length + j) zs rfl (by rw [← hX]; exact hXo) (wr.heap.size + 1) _ rfl (by rw [← hX]; exact hXc) rfl h63 (by rw [← hX]; exact hB) ?_; intro v' wy hown' gy hvb)
                rw [← hX] at gy
                have hb4 := below_grown hb3 gy hvb (Nat.le_refl _)
                go_roundw
                case rel =>
                  refine ⟨j + 1, zs ++ [.slice aj tj.kids.length cj], by omega, by go_num, by rw [← Nat.add_assoc]; exact hown', ?_, hb4⟩
                  have := HST.out.snoc (by rw [hzl]; simp; omega) HKK.out
                  rw [List.take_add_one, HKJ.out]
                  simpa using this
                case measure => simp [intOf]; omega
            · have hje : j = q := by rw [← hq.out]; omega
              have hjq : ¬ ((j : Int) < (q : Int)) := by omega
              have HOW : Hid (wr.ownsRow w.heap.size 23 1 u4 (st'.length + j) zs) := hown
              clear hst hown
              go_wp2
              go_roundg (sumC (st' ++ ks.map Tree.kids) + (st' ++ ks.map Tree.kids).length)
              case rel =>
                have htk : ks.take j = ks := List.take_of_length_le (by omega)
                have hs3 := HST.out
                rw [htk] at hs3
                refine ⟨left - q, st' ++ ks.map Tree.kids, zs, rfl, by omega, by have := HOW.out; rw [List.length_append, List.length_map]; rw [hje, ← hq.out] at this; exact this, hs3, hb2, ?_, rfl, by rw [List.length_append, List.length_map, hp, hq.out]; omega⟩
                rw [← HRE.out, hsum, sumC_app, Bool.eq_iff_iff]
                simp only [decide_eq_true_eq]
                rw [hq.out]; omega
              case measure =>
                rw [HGG.out, hsum, sumC_app, List.length_append, List.length_map, hp]
                omega
end Go.Proofs.YtmhnbklchnnbaaaGreatDoor
