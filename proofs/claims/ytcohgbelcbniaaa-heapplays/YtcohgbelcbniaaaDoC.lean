/-
  A CALL ON BOTH: the law's 'does', Record.
-/
import Derived.Test.YtcohgbelcbniaaaDoB
namespace Go.Proofs.Ytcohgbelcbniaaa
open Go.RowKit
set_option linter.unusedVariables false

theorem run_appW (W : World) (ty : TypeId) (ao : Option Addr) (cap : Nat) (xs : List Int) (hx : WordsAt W ao cap xs) (hn : xs.length ≤ 10000000) :
    ∃ ao' cap' w', (Builtin.append_ #[23, 23] ty #[.slice none 0 0, .slice ao xs.length cap]).run Try.prog W = .ok (.slice ao' xs.length cap') w' ∧ Rw w' 24 1 (.slice ao' xs.length cap') xs.length (wordV xs) ∧ (∀ b, (Value.slice ao' xs.length cap').ownBlock = some b → W.heap.size ≤ b) ∧ Below W.heap.size W w' := by
  cases ao with
  | none =>
    obtain ⟨rfl, rfl⟩ := hx.nil rfl
    exact ⟨none, 0, W, by kernel_rfl, World.ownsRow_nil _ 0 24 1, fun b hb => (nil_blk b hb).elim, Below.refl _ _⟩
  | some ad =>
    have hr : ∀ j u, (wordV xs)[j]? = some u → W.cell? (ad.add j) = some u := by
      intro j u hu
      obtain ⟨hj, rfl⟩ := wordV_get xs j u hu
      rcases hx.cell with q | ⟨b, o, e, _, hc⟩
      · rw [q] at hj; simp at hj
      · cases e
        have hadd : (⟨b, o, none⟩ : Addr).add j = ⟨b, o + j, none⟩ := by unfold Addr.add; split <;> simp_all
        rw [hadd]; exact hc j hj
    obtain ⟨v', w', h1, h2, h3, h4⟩ := run_appA okU W ty (.slice none 0 0) 0 [] (World.ownsRow_nil _ 0 24 1) ad xs.length cap (wordV xs) (by rw [wordV_length, Nat.mul_one]) hr (wordV_one xs) (by omega)
    rw [Nat.zero_add, List.nil_append] at h2
    obtain ⟨ao', cap', rfl, -⟩ := Rw.shape h2
    refine ⟨ao', cap', w', h1, h2, fun b hb => ?_, Fr.below ((Fr.refl _ W).grown h3 fun k hk e => by simp [Value.ownBlock] at e)⟩
    rcases h4 with z | z
    · rw [z] at hb; simp [Value.ownBlock] at hb
    · rw [z] at hb; cases hb; exact Nat.le_refl _
theorem wpList_appW {W : World} {ops : Array Oper} {rest : List Oper} {o : Oper} {a : Act} {Q : Exit → Act → World → Prop} (hgd : o.guard = none) (s x : Operand)
    (ho : o.op = .call { callee := .builtin .append, args := #[s, x], argTypes := #[23, 23] }) (hs : a.eval s = .slice none 0 0) (ao : Option Addr) (cap n : Nat) (xs : List Int) (hx : a.eval x = .slice ao n cap) (hnx : xs.length = n) (hw : WordsAt W ao cap xs) (hn : n ≤ 10000000)
    (h : ∀ ao' cap' w', Rw w' 24 1 (.slice ao' n cap') n (wordV xs) → (∀ b, (Value.slice ao' n cap').ownBlock = some b → W.heap.size ≤ b) → Below W.heap.size W w' → wpList Try.prog ops Q rest (a.put o.dst (.slice ao' n cap')) w') :
    wpList Try.prog ops Q (o :: rest) a W := by
  subst hnx
  obtain ⟨ao', cap', w', hr, g1, g2, g3⟩ := run_appW W o.type ao cap xs hw hn
  refine wpList_plain hgd fun K hK => ?_
  unfold Oper.wp execOp
  simp only [ho, resolve, invoke, builtin, Sem.run_bind, Sem.run_pure, Result.andThen_ok, List.map_toArray, List.map_cons, List.map_nil, hs, hx, hr]
  exact hK _ _ (h ao' cap' w' g1 g2 g3)
theorem words_of {w : World} {ao : Option Addr} {n cap : Nat} {xs : List Int} (h : Rw w 24 1 (.slice ao n cap) n (wordV xs)) (hn : xs.length = n) (hb : ∀ x ∈ xs, 0 ≤ x ∧ x < 18446744073709551616) : WordsAt w ao cap xs := by
  subst hn
  obtain ⟨ao2, cap2, e, c1, c2⟩ := h.shape
  cases e
  refine ⟨hb, ?_, ?_, c1, c2⟩
  · rintro rfl
    rcases h.2 with ⟨e, h0⟩ | ⟨g, cap', cur, e, _⟩
    · injection e with _ _ e3; exact ⟨List.eq_nil_of_length_eq_zero h0, e3⟩
    · cases e
  · rcases h.2 with ⟨e, h0⟩ | ⟨g, cap', cur, e, _, hg, _⟩
    · exact .inl (List.eq_nil_of_length_eq_zero h0)
    · cases e
      refine .inr ⟨g, 0, rfl, (show Own w g cur 24 from hg).lt, fun i hi => ?_⟩
      rw [Nat.zero_add]
      exact h.cells i _ (wordV_at xs i hi)
/-- The law's loop over its own copy of the words: those behind k are as they were. -/
def DL (w4 : World) (vb : Option Nat) (xs : List Int) (iv : Value) (wr : World) : Prop := ∃ k : Nat, k ≤ xs.length ∧ iv = .int .i64 (k : Int) ∧ Fr (fun b => vb = some b) w4 wr ∧ ∀ bV, vb = some bV → (∃ cur, Own wr bV cur 24) ∧ ∀ j, k ≤ j → j < xs.length → wr.cell? ⟨bV, j, none⟩ = some (.int .u64 (xs.getD j 0))
set_option maxRecDepth 100000 in
set_option maxHeartbeats 4000000 in
theorem does2 {w W : World} {p q : Nat} {m : M} {F G A : Nat → Prop} {kd : Int} {tx : ByteArray} {nn mm : Int} {ao : Option Addr} {l cap : Nat} {ref i word : Int} (d : Dd w W p q m F G A w.heap.size #[.int .i64 kd, .string tx, .int .i64 nn, .int .i64 mm, .slice ao l cap, .int .u64 ref, .int .i64 i, .int .u64 word]) (hW : Hid (w.alloc (.cells #[.int .i64 kd, .string tx, .int .i64 nn, .int .i64 mm, .slice ao l cap, .int .u64 ref, .int .i64 i, .int .u64 word] 26) = W)) (hkd : kd = 2) (hn : m.ths.length ≤ 100000) (hcap : cap ≤ maxLen) (hl : l ≤ cap)
    (xs : List Int) (hxl : xs.length = l) (hl2 : l ≤ 131072) (hws : WordsAt W ao cap xs) (hwF : xs ≠ [] → ∀ b o, ao = some ⟨b, o, none⟩ → ¬ A b ∧ b < w.heap.size) :
    Calls Try.prog 12 #[ptr p, ptr q, .agg #[.int .i64 kd, .string tx, .int .i64 nn, .int .i64 mm, .slice ao l cap, .int .u64 ref, .int .i64 i, .int .u64 word]] w fun e w' => e = .returned (.bool true) ∧ PqRet w p q (m.made (tRec nn xs) (1 + l)) A w' := by
  have hsz : W.heap.size = w.heap.size + 1 := by rw [← hW.out]; exact World.size_alloc w _
  have HXL : Hid (xs.length = l) := hxl
  obtain ⟨c0, c1, c2, c3, c4, c5, c6, c7⟩ := own8v d.own
  have HD : Hid _ := d
  have HWS : Hid (WordsAt W ao cap xs) := hws
  -- the two calls, one behind the other
  have HC : Hid (∀ ao' cap' w2, Rw w2 24 1 (.slice ao' l cap') l (wordV xs) → (∀ b, (Value.slice ao' l cap').ownBlock = some b → W.heap.size ≤ b) → Below W.heap.size W w2 →
      (Own w2 w.heap.size #[.int .i64 kd, .string tx, .int .i64 nn, .int .i64 mm, .slice ao l cap, .int .u64 ref, .int .i64 i, .int .u64 word] 26) ∧
      Calls Try.prog 20 #[ptr p, .int .i64 nn, .slice ao' l cap'] w2 fun e w3 => e = .returned (.tuple #[.int .u64 (m.madeR (1 + l)), .int .i64 (m.madeT (1 + l))]) ∧ (Own w3 w.heap.size #[.int .i64 kd, .string tx, .int .i64 nn, .int .i64 mm, .slice ao l cap, .int .u64 ref, .int .i64 i, .int .u64 word] 26) ∧
      Calls Try.prog 31 #[ptr q, .int .i64 nn, .slice ao l cap] w3 fun e w4 => e = .returned (.tuple #[.int .u64 (m.madeR (1 + l)), .int .i64 (m.madeT (1 + l))]) ∧ (Own w4 w.heap.size #[.int .i64 kd, .string tx, .int .i64 nn, .int .i64 mm, .slice ao l cap, .int .u64 ref, .int .i64 i, .int .u64 word] 26) ∧ Rw w4 24 1 (.slice ao' l cap') l (wordV xs) ∧ WordsAt w4 ao cap xs ∧ (∀ wr, Fr (fun b => (Value.slice ao' l cap').ownBlock = some b) w4 wr → PqRet w p q (m.made (tRec nn xs) (1 + l)) A wr)) := by
    intro ao' cap' w2 k1 k2 k3
    have hb2 := HD.out.own.below k3
    refine ⟨hb2, ?_⟩
    have hs2 := HD.out.hs.below k3
    have hr2 := HD.out.hr.below k3
    have hbits := HWS.out.bits
    have hwv := words_of k1 HXL.out hbits
    have hrec := recordS hs2 hn nn ao' cap' xs hwv (fun _ b o e hb y => by
      have z := k2 b (by rw [e]; rfl)
      have := HD.out.hs.bd b y
      omega) (by rw [HXL.out]; omega)
    rw [HXL.out] at hrec
    refine hrec.mono ?_
    rintro e w3 ⟨rfl, r1⟩
    have hb3 := box_keep hb2 HD.out.nf r1
    refine ⟨rfl, hb3, ?_⟩
    have hr3 := pq_mid hr2 HD.out.hd r1
    have f3 : Fr F w2 w3 := by obtain ⟨_, _, _, f⟩ := r1; exact f
    have hw3 : WordsAt w3 ao cap xs := (HWS.out.below k3).same f3.size fun hne b o e hb => f3.block b hb (fun y => (hwF hne b o e).1 ((HD.out.hA b).2 (.inl y)))
    have hrec2 := recordR hr3 HD.out.hs.inv (by omega) nn ao cap xs hw3 (by rw [HXL.out]; omega)
    rw [HXL.out] at hrec2
    refine hrec2.mono ?_
    rintro e w4 ⟨rfl, r2⟩
    have f4 : Fr G w3 w4 := by obtain ⟨_, _, _, f⟩ := r2; exact f
    have hb4 := box_keepR hb3 HD.out.ng r2
    have k4 : Rw w4 24 1 (.slice ao' l cap') l (wordV xs) := (k1.fr f3 fun b e y => by have := k2 b e; have := HD.out.hs.bd b y; omega).fr f4 fun b e y => by have := k2 b e; have := HD.out.hr.bd b y; omega
    have hw4 : WordsAt w4 ao cap xs := hw3.same f4.size fun hne b o e hb => f4.block b hb (fun y => (hwF hne b o e).1 ((HD.out.hA b).2 (.inr y)))
    refine ⟨rfl, hb4, k4, hw4, fun wr hfr => ?_⟩
    have hP : PqRet w2 p q (m.made (tRec nn xs) (1 + l)) A w4 := pq_end hr2 HD.out.hd HD.out.hA r1 r2
    have hsk := k3.size
    obtain ⟨A4, p1, p2, p3⟩ := hP
    have hnA : ∀ b, A4 b → (Value.slice ao' l cap').ownBlock = some b → False := by
      intro b hb e
      have z := k2 b e
      have z2 := k1.lt e
      rcases p2 b hb with y | y
      · rcases (HD.out.hA b).1 y with y | y
        · have := HD.out.hs.bd b y; omega
        · have := HD.out.hr.bd b y; omega
      · omega
    have P4 : PqRet W p q (m.made (tRec nn xs) (1 + l)) A wr := by
      refine ⟨A4, p1.fr hfr hnA, fun b hb => ?_, ((Fr.of k3).trans p3).then hfr fun i hi e => by have := k2 i e; omega⟩
      rcases p2 b hb with y | y
      · exact .inl y
      · exact .inr (by omega)
    exact P4.base HD.out.hb
  obtain ⟨M', hM'⟩ : ∃ M', Hid (m.made (tRec nn xs) (1 + l) = M') := ⟨_, rfl⟩
  rw [hM'.out] at HC ⊢
  generalize m.madeR (1 + l) = R at *
  generalize m.madeT (1 + l) = T at *
  have HWF : Hid (xs ≠ [] → ∀ b o, ao = some ⟨b, o, none⟩ → ¬ A b ∧ b < w.heap.size) := hwF
  obtain ⟨B, hBB⟩ : ∃ B, Hid (w.heap.size = B) := ⟨_, rfl⟩
  rw [hBB.out] at c0 c1 c2 c3 c4 c5 c6 c7 HC HWF hsz
  unfold maxLen at hcap
  subst hkd
  clear d hws hwF hM' HD hxl
  go_enter Try.func12, Try.ntmps12
  go_upto_region 1 with fail
  rw [hW.out, hBB.out]
  go_upto_region 11 with (refine wpList_appW (by rfl) (.tmp 72) (.tmp 74) (by rfl) (by rfl) ao cap l xs (by rfl) HXL.out HWS.out (by omega) ?_; intro ao' cap' w2 k1 k2 k3; have HQ : Hid _ := HC.out ao' cap' w2 k1 k2 k3; have HK2 : Hid _ := k2; clear k1 k2 k3)
  clear c0 c1 c2 c3 c4 c5 c6 c7
  obtain ⟨c0, c1, c2, c3, c4, c5, c6, c7⟩ := own8v HQ.out.1
  have hc := HQ.out.2
  clear HQ HC
  go_wp2_with (first
    | (go_at_call 20; refine hc.mono ?_; clear hc; rintro e w3 ⟨rfl, b3, hc2⟩; clear c0 c1 c2 c3 c4 c5 c6 c7; obtain ⟨c0, c1, c2, c3, c4, c5, c6, c7⟩ := own8v b3; clear b3)
    | (go_at_call 31; refine hc2.mono ?_; clear hc2; rintro e w4 ⟨rfl, b4, k4, hw4, hend⟩; clear c0 c1 c2 c3 c4 c5 c6 c7; have H4 : Hid _ := And.intro b4 (And.intro k4 (And.intro hw4 hend)); clear b4 k4 hw4 hend))
  go_loopw [16] (fun iv wr => DL w4 (Value.slice ao' l cap').ownBlock xs iv wr) (fun i _ => l - (intOf i).toNat)
  case atStart =>
    refine ⟨0, Nat.zero_le _, rfl, Fr.refl _ _, fun bV e => ?_⟩
    obtain ⟨_, k4, _, _⟩ := H4.out
    rcases k4.2 with ⟨e2, h0⟩ | ⟨g, cap2, cur, e2, _, hg, _⟩
    · cases e2; simp [Value.ownBlock] at e
    · cases e2
      simp [Value.ownBlock] at e
      subst e
      exact ⟨⟨cur, hg⟩, fun j _ hj => k4.cells j _ (wordV_at xs j hj)⟩
  case round =>
    obtain ⟨k, hk, rfl, hfr, hcells⟩ := hrel
    rw [HXL.out] at hk
    by_cases hlt : k < l
    · have HL : Hid (k < xs.length) := by unfold Hid; rw [HXL.out]; exact hlt
      have hne : xs ≠ [] := by rintro rfl; simpa using HL.out
      obtain ⟨b4, k4, hw4, -⟩ := H4.out
      obtain ⟨bV, cap2, cur2, e2, -, -, c3x, -, -⟩ := k4.block (by omega)
      cases e2
      obtain ⟨⟨cur, oV⟩, hcl⟩ := hcells bV rfl
      have cV := hcl k (Nat.le_refl _) HL.out
      have fV := oV.froz k
      rcases hw4.cell with z | ⟨b0, o0, rfl, hb0, hc0⟩
      · exact absurd z hne
      have hbV := HK2.out bV rfl
      have hb0w := (HWF.out hne b0 o0 rfl).2
      have hb0V : b0 ≠ bV := by omega
      have hBV : B ≠ bV := by omega
      have c4' := (own8v (b4.fr hfr (fun e => hBV (by cases e; rfl)))).2.2.2.2.1
      have cX : wr.cell? ⟨b0, o0 + k, none⟩ = some (.int .u64 (xs.getD k 0)) := by
        rw [World.cell?_of_block (a := ⟨b0, o0 + k, none⟩) (hfr.block b0 hb0 (fun e => hb0V (by cases e; rfl)))]
        exact hc0 k HL.out
      obtain ⟨x, hx⟩ : ∃ x, Hid (xs.getD k 0 = x) := ⟨_, rfl⟩
      rw [hx.out] at cV cX
      have HN : Hid (∀ nq, DL w4 (some bV) xs (.int .i64 ((k : Int) + 1)) ((wr.drewN nq).setCell ⟨bV, k, none⟩ (.int .u64 77))) := by
        intro nq
        refine ⟨k + 1, HL.out, by simp, (hfr.drewN nq).set (.inr rfl) k _, fun b e => ?_⟩
        cases e
        refine ⟨⟨_, (oV.drewN nq).set k _⟩, fun j hj1 hj2 => ?_⟩
        rw [((oV.drewN nq).set k (.int .u64 77)).cell, Array.getElem?_setIfInBounds_ne (by omega), ← oV.cell j]
        exact hcl j (by omega) hj2
      have hcm3 := c3x
      unfold maxLen at hcm3
      clear hfr hcells b4 k4 hw4 hcl hc0 hne oV
      go_wp2_with fail
      go_quiet (fail)
      go_wp2_with fail
      go_roundw
      case rel => exact HN.out _
      case measure => simp [intOf]; omega
    · have hkl : k = l := by omega
      subst hkl
      have HP : Hid (PqRet w p q M' A wr) := H4.out.2.2.2 wr hfr
      clear hfr hcells
      go_wp2_with fail
      go_ret
      exact ⟨by first | rfl | simp, HP.out⟩
end Go.Proofs.Ytcohgbelcbniaaa
