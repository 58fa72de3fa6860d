/-
  CONTRACTS of the document's own heap: make, Const, Text, Record, Empty.
-/
import Derived.Test.YtcohgbelcbniaaaRfC
namespace Go.Proofs.Ytcohgbelcbniaaa
open Go.RowKit
set_option linter.unusedVariables false

/-- A thing more. -/
theorem ROwn.grow {w w' : World} {q : Nat} {m : M} {vt vt' : Value} {vs : Nat → Value} (h : ROwn w q m vt vs) (t : Th) (v : Value) (c : Nat) (hpay : m.used + c ≤ m.limit)
    (ho : Own w' q #[vt', .int .i64 ((m.used + c : Nat) : Int), .int .i64 (m.limit : Int)] 36) (hr : Rw w' 88 4 vt' (m.ths.length + 1) (rcells vs m.ths ++ rc t v)) (ht : Rw w' 24 1 v t.words.length (wordV t.words))
    (hb : ∀ i, i < m.ths.length → ∀ g, (vs i).ownBlock = some g → w'.heap[g]? = w.heap[g]?)
    (nb : ∀ i, i < m.ths.length → ∀ g, (vs i).ownBlock = some g → v.ownBlock ≠ some g) :
    ROwn w' q (m.made t c) vt' (fun i => if i = m.ths.length then v else vs i) := by
  have e : m.made t c = ⟨m.ths ++ [t], m.used + c, m.limit⟩ := by simp [M.made, M.paid, M.keep, hpay]
  rw [e]
  refine ⟨ho, ?_, ?_, ?_⟩
  · show Rw w' 88 4 vt' (m.ths ++ [t]).length (rcells _ (m.ths ++ [t]))
    rw [rcells_snoc vs (fun i => if i = m.ths.length then v else vs i) m.ths t v (fun i hi => if_neg (by omega)) (if_pos rfl), List.length_append]
    exact hr
  · intro i u hu
    have hu2 : (m.ths ++ [t])[i]? = some u := hu
    by_cases hi : i < m.ths.length
    · rw [List.getElem?_append_left hi] at hu2
      simp only [if_neg (show ¬ i = m.ths.length by omega)]
      exact (h.rows i u hu2).on (hb i hi)
    · obtain ⟨hl, _⟩ := List.getElem?_eq_some_iff.1 hu2
      have hin : i = m.ths.length := by rw [List.length_append, List.length_singleton] at hl; omega
      subst hin
      simp at hu2
      subst hu2
      simpa using ht
  · intro i j g hi hj hig hjg
    simp only [List.length_append, List.length_singleton] at hi hj
    by_cases h1 : i = m.ths.length
    · by_cases h2 : j = m.ths.length
      · rw [h1, h2]
      · simp only [if_pos h1] at hig
        simp only [if_neg h2] at hjg
        exact absurd hig (nb j (by omega) g hjg)
    · by_cases h2 : j = m.ths.length
      · simp only [if_neg h1] at hig
        simp only [if_pos h2] at hjg
        exact absurd hjg (nb i (by omega) g hig)
      · simp only [if_neg h1] at hig
        simp only [if_neg h2] at hjg
        exact h.injV i j g (by omega) (by omega) hig hjg
/-- What a call that makes a thing of given words leaves. -/
def RMade (w : World) (q : Nat) (m' : M) (F : Nat → Prop) (v : Value) (w' : World) : Prop := ∃ F', RAt w' q m' F' ∧ (∀ x, F' x → F x ∨ w.heap.size ≤ x ∨ v.ownBlock = some x) ∧ Fr F w w'
theorem rmade_same {w w' : World} {q : Nat} {m : M} {F : Nat → Prop} {v : Value} (h : RAt w q m F) (hb : Below w.heap.size w w') : RMade w q m F v w' := ⟨F, h.below hb, fun b hb => .inl hb, Fr.of hb⟩
/-- Out of a row that has grown. -/
theorem rmade_grow {w w1 w' : World} {q : Nat} {m : M} {F : Nat → Prop} {vt vt' : Value} {vs : Nat → Value} (H : ROwn w q m vt vs) (hF : ∀ b, RBlk q m.ths.length vt vs b → F b) (t : Th) (v : Value) (c : Nat) (hpay : m.used + c ≤ m.limit) (hv : Rw w 24 1 v t.words.length (wordV t.words)) (hnv : ∀ g, v.ownBlock = some g → ¬ F g)
    (ho : Own w' q #[vt', .int .i64 ((m.used + c : Nat) : Int), .int .i64 (m.limit : Int)] 36) (hr : Rw w' 88 4 vt' (m.ths.length + 1) (rcells vs m.ths ++ rc t v))
    (hb : ∀ b, b < w.heap.size → b ≠ q → vt.ownBlock ≠ some b → w'.heap[b]? = w.heap[b]?) (hvt : ∀ g, vt'.ownBlock = some g → vt.ownBlock = some g ∨ w.heap.size ≤ g) (hf : Fr F w w') : RMade w q (m.made t c) F v w' := by
  have HG := H.grow (w' := w') (vt' := vt') t v c hpay ho hr (hv.on fun g hg => hb g (hv.lt hg) (fun e => hnv g hg (by rw [e]; exact hF q (.inl rfl))) fun e => hnv g hg (hF g (.inr (.inl e)))) (fun i hi g hg => hb g ((H.rows i _ (List.getElem?_eq_getElem hi)).lt hg) (by rintro rfl; exact (H.apart hi).1 hg) ((H.apart hi).2 g hg)) (fun i hi g hg e => hnv g e (hF g (.inr (.inr ⟨i, hi, hg⟩))))
  refine ⟨_, ⟨_, _, HG, fun b hb => hb, HG.bd⟩, ?_, hf⟩
  have e : (m.made t c).ths.length = m.ths.length + 1 := by simp [M.made, M.paid, M.keep, hpay]
  rw [e]
  rintro x (rfl | hx | ⟨i, hi, hx⟩)
  · exact .inl (hF _ (.inl rfl))
  · rcases hvt x hx with z | z
    · exact .inl (hF x (.inr (.inl z)))
    · exact .inr (.inl z)
  · by_cases hin : i = m.ths.length
    · simp only [if_pos hin] at hx; exact .inr (.inr hx)
    · simp only [if_neg hin] at hx; exact .inl (hF x (.inr (.inr ⟨i, by omega, hx⟩)))
set_option maxRecDepth 100000 in
set_option maxHeartbeats 2000000 in
theorem makeR {w : World} {q : Nat} {m : M} {F : Nat → Prop} (h : RAt w q m F) (hi : Inv m) (hn : m.ths.length ≤ 1000000) (t : Th) (ao : Option Addr) (cap : Nat) (hv : Rw w 24 1 (.slice ao t.words.length cap) t.words.length (wordV t.words)) (hnv : ∀ g, (Value.slice ao t.words.length cap).ownBlock = some g → ¬ F g) (c : Nat) (hc : c ≤ 100000000000000000) :
    Calls Try.prog 50 #[ptr q, .agg #[.int .i64 (t.kind : Int), .int .i64 t.typ, .string t.text, .slice ao t.words.length cap], .int .i64 (c : Int)] w fun e w' => e = .returned (.tuple #[.int .u64 (m.madeR c), .int .i64 (m.madeT c)]) ∧ RMade w q (m.made t c) F (.slice ao t.words.length cap) w' := by
  have hsc := h
  obtain ⟨vt, vs, H, hF, hl0⟩ := h
  have h1 := hi.used
  have h2 := hi.limit
  have ho := H.own
  have hql := ho.lt
  obtain ⟨L, hL⟩ : ∃ L, Hid (m.limit = L) := ⟨_, rfl⟩
  obtain ⟨U, hU⟩ : ∃ U, Hid (m.used = U) := ⟨_, rfl⟩
  rw [hL.out, hU.out] at ho h1
  rw [hL.out] at h2
  have hbox := Own.new w #[.int .i64 (t.kind : Int), .int .i64 t.typ, .string t.text, .slice ao t.words.length cap] 88
  have hb0 : Below w.heap.size w (w.alloc (.cells #[.int .i64 (t.kind : Int), .int .i64 t.typ, .string t.text, .slice ao t.words.length cap] 88)) := (Below.refl _ w).alloc (Nat.le_refl _) _
  obtain ⟨VT, hVT⟩ : ∃ VT, Hid (vt = VT) := ⟨_, rfl⟩
  by_cases hp : U + c ≤ L
  · have hpay : m.used + c ≤ m.limit := by rw [hL.out, hU.out]; exact hp
    have hd : decide ((L : Int) - U < c) = false := by simp; omega
    obtain ⟨e1, e2, e3, e4⟩ := made_paid t hpay
    rw [e2, e3]
    have hr := H.row
    have hne := hr.ne H.own (by decide)
    obtain ⟨ao0, cap0, rfl, -⟩ := hr.shape
    obtain ⟨n, hnn⟩ : ∃ n, Hid (m.ths.length = n) := ⟨_, rfl⟩
    rw [hnn.out] at hr ho hn hne ⊢
    have HW : Hid (∀ nq, ∃ W, ((w.alloc (.cells #[.int .i64 (t.kind : Int), .int .i64 t.typ, .string t.text, .slice ao t.words.length cap] 88)).drewN nq).setCell ⟨q, 1, none⟩ (.int .i64 ((U : Int) + c)) = W ∧ Own W q #[.slice ao0 n cap0, .int .i64 ((U : Int) + c), .int .i64 (L : Int)] 36 ∧ Own W w.heap.size #[.int .i64 (t.kind : Int), .int .i64 t.typ, .string t.text, .slice ao t.words.length cap] 88 ∧ Rw W 88 4 (.slice ao0 n cap0) n (rcells vs m.ths) ∧ (∀ b, b < w.heap.size → b ≠ q → W.heap[b]? = w.heap[b]?) ∧ Fr F w W ∧ w.heap.size < W.heap.size) := by
      intro nq
      refine ⟨_, rfl, ?_, ?_, ?_, ?_, ?_, ?_⟩
      · simpa using ((ho.below hb0).drewN nq).set 1 (.int .i64 ((U : Int) + c))
      · exact (hbox.drewN nq).other (by omega) _
      · exact ((hr.alloc _).drewN nq).set hne 1 _
      · intro b hb hbq
        rw [Below.heap_setCell _ ⟨q, 1, none⟩ _ b hbq]
        exact hb0.block b hb
      · exact (((Fr.refl F w).alloc _).drewN nq).set (.inr (hF q (.inl rfl))) 1 _
      · simp [World.setCell, World.drewN]
    have HX : Hid (∀ W, Own W q #[.slice ao0 n cap0, .int .i64 ((U : Int) + c), .int .i64 (L : Int)] 36 → (∀ b, b < w.heap.size → b ≠ q → W.heap[b]? = w.heap[b]?) → Fr F w W → ∀ o ao2 cap2 wz, Rw wz 88 4 (.slice ao2 (n + 1) cap2) (n + 1) (rcells vs m.ths ++ rc t (.slice ao t.words.length cap)) → ((W.alloc o).drew).grownBy wz (Value.slice ao0 n cap0).ownBlock → ((Value.slice ao2 (n + 1) cap2).ownBlock = (Value.slice ao0 n cap0).ownBlock ∨ (Value.slice ao2 (n + 1) cap2).ownBlock = some ((W.alloc o).drew).heap.size) → Own wz q #[.slice ao0 n cap0, .int .i64 ((U : Int) + c), .int .i64 (L : Int)] 36 ∧ RMade w q (m.made t c) F (.slice ao t.words.length cap) (wz.setCell ⟨q, 0, none⟩ (.slice ao2 (n + 1) cap2))) := by
      intro W hW hWb hWf o ao2 cap2 wz z1 z2 z3
      have oz : Own wz q #[.slice ao0 n cap0, .int .i64 ((U : Int) + c), .int .i64 (L : Int)] 36 := ((hW.alloc o).drew).grown z2 (fun e => hne e.symm)
      refine ⟨oz, ?_⟩
      have hsz : ((W.alloc o).drew).heap.size = W.heap.size + 1 := World.size_alloc W o
      have hws := hWf.size
      rw [hsz] at z3
      refine rmade_grow (vt' := .slice ao2 (n + 1) cap2) (w1 := w) H hF t (.slice ao t.words.length cap) c hpay hv hnv ?_ ?_ (fun b hb hbq hbv => ?_) (fun g hg => ?_) ?_
      · have e9 : ((m.used + c : Nat) : Int) = (U : Int) + c := by rw [hU.out]; omega
        rw [e9, hL.out]
        simpa using oz.set 0 (.slice ao2 (n + 1) cap2)
      · rw [hnn.out]
        exact z1.set (z1.ne oz (by decide)) 0 _
      · rw [hnn.out] at hbv
        rw [Below.heap_setCell wz ⟨q, 0, none⟩ _ b hbq, z2.block b (by rw [hsz]; omega) (fun e => hbv e.symm)]
        exact (Below.heap_alloc W o b (by omega)).trans (hWb b hb hbq)
      · rw [hnn.out]
        rcases z3 with x | x
        · exact .inl (by rw [← x]; exact hg)
        · rw [x] at hg; cases hg; exact .inr (by omega)
      · exact (((hWf.alloc o).drew).grown z2 fun k _ e => hF k (.inr (.inl (by rw [hnn.out]; exact e)))).set (.inr (hF q (.inl rfl))) 0 _
    obtain ⟨c0, c1, c2, hf⟩ := own3 (ho.below hb0)
    obtain ⟨rs, hrs⟩ : ∃ rs, Hid (rcells vs m.ths = rs) := ⟨_, rfl⟩
    obtain ⟨wl, hwl⟩ : ∃ wl, Hid (t.words.length = wl) := ⟨_, rfl⟩
    have hrc : rc t (.slice ao t.words.length cap) = [.int .i64 (t.kind : Int), .int .i64 t.typ, .string t.text, .slice ao wl cap] := by unfold rc; rw [hwl.out]
    rw [hrc] at HX
    rw [hrs.out] at HW HX
    rw [hwl.out] at HW HX c0 c1 c2 hf ⊢
    generalize m.made t c = M' at *
    generalize (t.kind : Int) = kd at *
    generalize t.typ = ty at *
    generalize t.text = tx at *
    clear H hF hl0 hsc hr hbox hb0 hv hnv hrc hrs hwl e1 e2 e3 e4 hi hpay
    go_enter Try.func50, Try.ntmps50
    go_wp2_with fail
    go_quiet (fail)
    go_upto_region 4 with fail
    obtain ⟨W, hW, oW, bW, rW, fW, gW, sW⟩ := HW.out nq
    rw [hW]
    clear c0 c1 c2 hf HW hW
    have HZ : Hid _ := HX.out W oW fW gW
    obtain ⟨d0, d1, d2, df⟩ := own3 oW
    obtain ⟨b0, b1, b2, b3, -⟩ := own4 bW
    obtain ⟨x0, -, -, xf⟩ := own3 (oW.alloc (.cells #[.int .i64 kd, .int .i64 ty, .string tx, .slice ao wl cap] 88)).drew
    have hr2 := (rW.alloc (.cells #[.int .i64 kd, .int .i64 ty, .string tx, .slice ao wl cap] 88)).drew
    have hb2 := (Own.new W #[.int .i64 kd, .int .i64 ty, .string tx, .slice ao wl cap] 88).drew
    clear HX oW bW rW fW gW
    go_region_law (refine step_app1 okR (by rfl) (.tmp 32) (.tmp 34) (by rfl) _ n rs (by rfl) hr2 W.heap.size [.int .i64 kd, .int .i64 ty, .string tx, .slice ao wl cap] (by rfl) hb2 rfl (by simp [Value.oneCell']) (by omega) ?_; intro ao2 cap2 wz z1 z2 z3; have HQ : Hid _ := HZ.out _ ao2 cap2 wz z1 z2 z3; obtain ⟨y0, -, -, yf⟩ := own3 HQ.out.1; clear z1 z2 z3)
    all_goals (
      go_wp2_with fail
      go_ret2
      exact ⟨rfl, HQ.out.2⟩)
  · have hpay : ¬ m.used + c ≤ m.limit := by rw [hL.out, hU.out]; exact hp
    have hd : decide ((L : Int) - U < c) = true := by simp; omega
    obtain ⟨e1, e2, e3, e4, e5⟩ := made_not t hpay
    rw [e1, e2, e3]
    have HR : Hid (∀ nq, RMade w q m F (.slice ao t.words.length cap) ((w.alloc (.cells #[.int .i64 (t.kind : Int), .int .i64 t.typ, .string t.text, .slice ao t.words.length cap] 88)).drewN nq)) := fun nq => rmade_same hsc (hb0.trans ((below_drewN _ nq).mono hb0.size))
    obtain ⟨c0, c1, c2, hf⟩ := own3 (ho.below hb0)
    obtain ⟨ao0, cap0, e9, -⟩ := H.row.shape
    subst e9
    generalize (t.kind : Int) = kd at *
    generalize t.words.length = wl at *
    generalize t.typ = ty at *
    generalize t.text = tx at *
    clear H hF hl0 hsc hbox hb0 hnv e1 e2 e3 e4 e5 hi
    go_enter Try.func50, Try.ntmps50
    go_wp2_with fail
    go_quiet (fail)
    go_wp2_with fail
    go_ret2
    exact ⟨rfl, HR.out _⟩
theorem rret_of {w w1 w' : World} {q : Nat} {m' : M} {F : Nat → Prop} {v : Value} (h : RMade w1 q m' F v w') (hb : Below w.heap.size w w1) (hv : ∀ g, v.ownBlock = some g → w.heap.size ≤ g) : RRet w q m' F w' := by
  obtain ⟨F', k1, k2, k3⟩ := h
  have hs := hb.size
  refine ⟨F', k1, fun x hx => ?_, (Fr.of hb).then k3 fun i _ y => y⟩
  rcases k2 x hx with z | z | z
  · exact .inl z
  · exact .inr (by omega)
  · exact .inr (hv x z)
theorem nil_blk (g : Nat) (h : (Value.slice none 0 0).ownBlock = some g) : False := by simp [Value.ownBlock] at h
set_option maxRecDepth 100000 in
theorem constR {w : World} {q : Nat} {m : M} {F : Nat → Prop} (h : RAt w q m F) (hi : Inv m) (hn : m.ths.length ≤ 1000000) (s : ByteArray) : Calls Try.prog 29 #[ptr q, .string s] w fun e w' => e = .returned (.int .u64 ((m.ths.length : Int) + 1)) ∧ RRet w q (m.keep (tText s)) F w' := by
  have hm := makeR h hi hn (tText s) none 0 (World.ownsRow_nil w 0 24 1) (fun g hg => (nil_blk g hg).elim) 0 (by omega)
  have hp : m.used + 0 ≤ m.limit := by have := hi.used; omega
  obtain ⟨-, e2, e3, -⟩ := made_paid (tText s) hp
  rw [e2, e3, made0 hi] at hm
  have HR : Hid (∀ w', RMade w q (m.keep (tText s)) F (.slice none 0 0) w' → RRet w q (m.keep (tText s)) F w') := fun w' hr => rret_of hr (Below.refl _ _) (fun g hg => (nil_blk g hg).elim)
  have hm2 : Calls Try.prog 50 #[ptr q, .agg #[.int .i64 1, .int .i64 5, .string s, .slice none 0 0], .int .i64 0] w fun e w' => e = .returned (.tuple #[.int .u64 ((m.ths.length : Int) + 1), .int .i64 0]) ∧ RMade w q (m.keep (tText s)) F (.slice none 0 0) w' := hm
  clear hm h hi e2 e3 hp
  go_enter Try.func29, Try.ntmps29
  go_wp2_with (go_at_call 50; refine hm2.mono ?_; rintro e w1 ⟨rfl, hr⟩; have HQ : Hid _ := HR.out w1 hr; clear hr)
  go_ret
  exact ⟨rfl, HQ.out⟩
set_option maxRecDepth 100000 in
theorem textR {w : World} {q : Nat} {m : M} {F : Nat → Prop} (h : RAt w q m F) (hi : Inv m) (hn : m.ths.length ≤ 1000000) (s : ByteArray) (hs : s.size ≤ maxLen) : Calls Try.prog 30 #[ptr q, .string s] w fun e w' => e = .returned (.tuple #[.int .u64 (m.textR s), .int .i64 (m.textT s)]) ∧ RRet w q (m.texted s) F w' := by
  unfold M.textR M.textT M.texted
  unfold maxLen at hs
  by_cases hbig : 65536 < s.size
  · rw [if_pos hbig, if_pos hbig, if_pos hbig]
    have HR : Hid (RRet w q m F w) := RRet.same h (Below.refl _ _)
    clear h hi
    go_enter Try.func30, Try.ntmps30
    go_wp2_with fail
    go_ret2
    exact ⟨rfl, HR.out⟩
  rw [if_neg hbig, if_neg hbig, if_neg hbig]
  have hs2 : s.size ≤ 65536 := by omega
  have hm := makeR h hi hn (tText s) none 0 (World.ownsRow_nil w 0 24 1) (fun g hg => (nil_blk g hg).elim) (cText s) (by unfold cText; omega)
  have ec : ((cText s : Nat) : Int) = 1 + ((s.size : Int) + 7) / 8 := by unfold cText; omega
  rw [ec] at hm
  obtain ⟨M', hM'⟩ : ∃ M', Hid (m.made (tText s) (cText s) = M') := ⟨_, rfl⟩
  rw [hM'.out] at hm ⊢
  have HR : Hid (∀ w', RMade w q M' F (.slice none 0 0) w' → RRet w q M' F w') := fun w' hr => rret_of hr (Below.refl _ _) (fun g hg => (nil_blk g hg).elim)
  generalize m.madeR (cText s) = R at *
  generalize m.madeT (cText s) = T at *
  have hm2 : Calls Try.prog 50 #[ptr q, .agg #[.int .i64 1, .int .i64 5, .string s, .slice none 0 0], .int .i64 (1 + ((s.size : Int) + 7) / 8)] w fun e w' => e = .returned (.tuple #[.int .u64 R, .int .i64 T]) ∧ RMade w q M' F (.slice none 0 0) w' := hm
  clear hm h hi ec hbig hs
  go_enter Try.func30, Try.ntmps30
  go_wp2_with (go_at_call 50; refine hm2.mono ?_; rintro e w1 ⟨rfl, hr⟩; have HQ : Hid _ := HR.out w1 hr; clear hr)
  go_ret2
  exact ⟨rfl, HQ.out⟩
set_option maxRecDepth 100000 in
theorem emptyR {w : World} {q : Nat} {m : M} {F : Nat → Prop} (h : RAt w q m F) (hi : Inv m) (hn : m.ths.length ≤ 1000000) (t : Int) : Calls Try.prog 34 #[ptr q, .int .i64 t] w fun e w' => e = .returned (.tuple #[.int .u64 (m.madeR 1), .int .i64 (m.madeT 1)]) ∧ RRet w q (m.made (tGrow t) 1) F w' := by
  have hm := makeR h hi hn (tGrow t) none 0 (World.ownsRow_nil w 0 24 1) (fun g hg => (nil_blk g hg).elim) 1 (by omega)
  obtain ⟨M', hM'⟩ : ∃ M', Hid (m.made (tGrow t) 1 = M') := ⟨_, rfl⟩
  rw [hM'.out] at hm ⊢
  have HR : Hid (∀ w', RMade w q M' F (.slice none 0 0) w' → RRet w q M' F w') := fun w' hr => rret_of hr (Below.refl _ _) (fun g hg => (nil_blk g hg).elim)
  generalize m.madeR 1 = R at *
  generalize m.madeT 1 = T at *
  have hm2 : Calls Try.prog 50 #[ptr q, .agg #[.int .i64 4, .int .i64 t, .string ⟨#[]⟩, .slice none 0 0], .int .i64 1] w fun e w' => e = .returned (.tuple #[.int .u64 R, .int .i64 T]) ∧ RMade w q M' F (.slice none 0 0) w' := hm
  clear hm h hi
  go_enter Try.func34, Try.ntmps34
  go_wp2_with (go_at_call 50; refine hm2.mono ?_; rintro e w1 ⟨rfl, hr⟩; have HQ : Hid _ := HR.out w1 hr; clear hr)
  go_ret2
  exact ⟨rfl, HQ.out⟩
set_option maxRecDepth 100000 in
theorem recordR {w : World} {q : Nat} {m : M} {F : Nat → Prop} (h : RAt w q m F) (hi : Inv m) (hn : m.ths.length ≤ 1000000) (t : Int) (ao : Option Addr) (cap : Nat) (ws : List Int) (hw : WordsAt w ao cap ws) (hl : ws.length ≤ 10000000) :
    Calls Try.prog 31 #[ptr q, .int .i64 t, .slice ao ws.length cap] w fun e w' => e = .returned (.tuple #[.int .u64 (m.madeR (1 + ws.length)), .int .i64 (m.madeT (1 + ws.length))]) ∧ RRet w q (m.made (tRec t ws) (1 + ws.length)) F w' := by
  have hcl := hw.capl
  have hcm := hw.capm
  unfold maxLen at hcm
  obtain ⟨M', hM'⟩ : ∃ M', Hid (m.made (tRec t ws) (1 + ws.length) = M') := ⟨_, rfl⟩
  have HO : Calls Try.prog 51 #[.slice ao ws.length cap] w fun e w1 => ∃ ao' cap', e = .returned (.slice ao' ws.length cap') ∧ Calls Try.prog 50 #[ptr q, .agg #[.int .i64 2, .int .i64 t, .string ⟨#[]⟩, .slice ao' ws.length cap'], .int .i64 (1 + (ws.length : Int))] w1 fun e w' => e = .returned (.tuple #[.int .u64 (m.madeR (1 + ws.length)), .int .i64 (m.madeT (1 + ws.length))]) ∧ RRet w q M' F w' := by
    refine (ownR w ao cap ws hw hl).mono ?_
    rintro e w1 ⟨ao', cap', rfl, k1, k2, k3⟩
    refine ⟨ao', cap', rfl, ?_⟩
    have hm := makeR (h.below k3) hi hn (tRec t ws) ao' cap' k1 (fun g hg y => by have := k2 g hg; have := h.bd g y; omega) (1 + ws.length) (by omega)
    have ec : ((1 + ws.length : Nat) : Int) = 1 + (ws.length : Int) := by omega
    rw [ec, hM'.out] at hm
    refine Calls.mono (show Calls Try.prog 50 #[ptr q, .agg #[.int .i64 2, .int .i64 t, .string ⟨#[]⟩, .slice ao' ws.length cap'], .int .i64 (1 + (ws.length : Int))] w1 _ from hm) ?_
    rintro e w' ⟨rfl, hr⟩
    exact ⟨rfl, rret_of hr k3 k2⟩
  rw [hM'.out]
  generalize m.madeR (1 + ws.length) = R at *
  generalize m.madeT (1 + ws.length) = T at *
  obtain ⟨n, hnn⟩ : ∃ n, Hid (ws.length = n) := ⟨_, rfl⟩
  rw [hnn.out] at HO hcl hl ⊢
  clear h hi hw hM' hnn
  go_enter Try.func31, Try.ntmps31
  go_wp2_with (first | (go_at_call 51; refine HO.mono ?_; clear HO; rintro e w1 ⟨ao', cap', rfl, hm⟩) | (go_at_call 50; refine hm.mono ?_; rintro e w2 ⟨rfl, hr⟩; have HQ : Hid _ := hr; clear hr))
  go_ret2
  exact ⟨rfl, HQ.out⟩
end Go.Proofs.Ytcohgbelcbniaaa
