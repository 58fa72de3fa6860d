/-
  HeapPlays, walked.
-/
import Derived.Test.YtcohgbelcbniaaaDoC
import Derived.Test.YtcohgbelcbniaaaUsed
namespace Go.Proofs.Ytcohgbelcbniaaa
open Go.RowKit
set_option linter.unusedVariables false

theorem doesP {A0 w : World} {p q : Nat} {m : M} {A : Nat → Prop} (h : Pq w p q m A) (hn : m.ths.length ≤ 100000) {s : Op} (ho : OpOk A0 s) (hA0 : Below A0.heap.size A0 w) (hA : ∀ b, A b → A0.heap.size ≤ b) (hl : s.text.size ≤ 131072 ∧ s.words.length ≤ 131072) :
    Calls Try.prog 12 #[ptr p, ptr q, .agg (opV s).toArray] w fun e w' => e = .returned (.bool true) ∧ PqRet w p q (m.ran s) A w' := by
  have hb0 : Below w.heap.size w (w.alloc (.cells (opV s).toArray 26)) := (Below.refl _ w).alloc (Nat.le_refl _) _
  have hws : WordsAt (w.alloc (.cells (opV s).toArray 26)) s.ao s.cap s.words := (ho.ws.below hA0).below hb0
  have hwF : s.words ≠ [] → ∀ b o, s.ao = some ⟨b, o, none⟩ → ¬ A b ∧ b < w.heap.size := by
    intro hne b o e
    rcases ho.ws.cell with x | ⟨b', o', e', hb', _⟩
    · exact absurd x hne
    · rw [e] at e'; cases e'
      exact ⟨fun y => by have := hA b y; omega, Nat.lt_of_lt_of_le hb' hA0.size⟩
  have hbd := h.bd
  obtain ⟨F, G, h1, h2, h3, h4⟩ := h.below hb0
  have hnF : ¬ F w.heap.size := fun f => by have := hbd _ ((h4 _).2 (.inl f)); omega
  have hnG : ¬ G w.heap.size := fun f => by have := hbd _ ((h4 _).2 (.inr f)); omega
  have d : Dd w (w.alloc (.cells (opV s).toArray 26)) p q m F G A w.heap.size (opV s).toArray := ⟨h1, h2, h3, h4, hb0, Own.new w _ 26, hnF, hnG⟩
  have hcm := ho.ws.capm
  have hcl := ho.ws.capl
  have hm := ho.m
  have hr := ho.ref
  have hi := ho.i
  have hwd := ho.word
  obtain ⟨kd, tx, nn, mm, ws, ref, i, word, ao, cap⟩ := s
  simp only at hl hcm hcl hm hr hi hwd hws hwF
  unfold M.ran
  simp only
  by_cases k0 : kd = 0
  · rw [if_pos k0]
    exact does0 d rfl k0 hn hl.1 hm.1 hm.2 hr.1 hr.2 hi.1 hi.2 hwd hcm hcl
  rw [if_neg k0]
  by_cases k1 : kd = 1
  · rw [if_pos k1]
    exact does1 d rfl k1 hn hl.1 hm.1 hm.2 hr.1 hr.2 hi.1 hi.2 hwd hcm hcl
  rw [if_neg k1]
  by_cases k2 : kd = 2
  · rw [if_pos k2]
    exact does2 d rfl k2 hn hcm hcl ws rfl hl.2 hws hwF
  rw [if_neg k2]
  by_cases k3 : kd = 3
  · rw [if_pos k3]
    exact does3 d rfl k3 hn hl.1 hm.1 hm.2 hr.1 hr.2 hi.1 hi.2 hwd hcm hcl
  rw [if_neg k3]
  by_cases k4 : kd = 4
  · rw [if_pos k4]
    exact does4 d rfl k4 hn hl.1 hm.1 hm.2 hr.1 hr.2 hi.1 hi.2 hwd hcm hcl
  rw [if_neg k4]
  by_cases k5 : kd = 5
  · rw [if_pos k5]
    exact does5 d rfl k5 hn hl.1 hm.1 hm.2 hr.1 hr.2 hi.1 hi.2 hwd hcm hcl
  rw [if_neg k5]
  by_cases k6 : kd = 6
  · rw [if_pos k6]
    exact does6 d rfl k6 hn hl.1 hm.1 hm.2 hr.1 hr.2 hi.1 hi.2 hwd hcm hcl
  rw [if_neg k6]
  by_cases k7 : kd = 7
  · rw [if_pos k7]
    exact does7 d rfl k7 hn hl.1 hm.1 hm.2 hr.1 hr.2 hi.1 hi.2 hwd hcm hcl
  rw [if_neg k7]
  exact does8 d rfl ⟨k0, k1, k2, k3, k4, k5, k6, k7⟩ hn hl.1 hm.1 hm.2 hr.1 hr.2 hi.1 hi.2 hwd hcm hcl
/-- The two heaps beside what came in. -/
def PW (A0 w : World) (p q : Nat) (m : M) : Prop := ∃ A, Pq w p q m A ∧ (∀ b, A b → A0.heap.size ≤ b) ∧ Below A0.heap.size A0 w
theorem PW.below {A0 w w' : World} {p q : Nat} {m : M} (h : PW A0 w p q m) (hb : Below w.heap.size w w') : PW A0 w' p q m := by
  obtain ⟨A, h1, h2, h3⟩ := h
  exact ⟨A, h1.below hb, h2, h3.trans (hb.mono h3.size)⟩
theorem PW.bel {A0 w : World} {p q : Nat} {m : M} (h : PW A0 w p q m) : Below A0.heap.size A0 w := by obtain ⟨A, _, _, h3⟩ := h; exact h3
theorem PW.next {A0 w w' : World} {p q : Nat} {m' : M} {A : Nat → Prop} (h2 : ∀ b, A b → A0.heap.size ≤ b) (h3 : Below A0.heap.size A0 w) (r : PqRet w p q m' A w') : PW A0 w' p q m' := by
  obtain ⟨A', r1, r2, r3⟩ := r
  have hs := h3.size
  refine ⟨A', r1, fun b hb => ?_, Fr.below ((Fr.of h3).then r3 fun i hi y => by have := h2 i y; omega)⟩
  rcases r2 b hb with y | y
  · exact h2 b y
  · omega
theorem PW.cells {A0 w : World} {p q : Nat} {m : M} (h : PW A0 w p q m) : ∃ ao cap, w.cell? ⟨q, 0, none⟩ = some (.slice ao m.ths.length cap) ∧ w.cell? ⟨q, 1, none⟩ = some (.int .i64 (m.used : Int)) ∧ m.ths.length ≤ cap ∧ cap ≤ maxLen := by
  obtain ⟨A, ⟨F, G, _, ⟨vt, vs, H, _⟩, _⟩, _⟩ := h
  obtain ⟨ao, cap, rfl, c1, c2⟩ := H.row.shape
  exact ⟨ao, cap, (own3 H.own).1, (own3 H.own).2.1, c1, c2⟩
theorem pwDoes {A0 w : World} {p q : Nat} {m : M} (h : PW A0 w p q m) (hn : m.ths.length ≤ 100000) {s : Op} (ho : OpOk A0 s) (hl : s.text.size ≤ 131072 ∧ s.words.length ≤ 131072) :
    Calls Try.prog 12 #[ptr p, ptr q, .agg (opV s).toArray] w fun e w' => e = .returned (.bool true) ∧ PW A0 w' p q (m.ran s) := by
  obtain ⟨A, h1, h2, h3⟩ := h
  refine (doesP h1 hn ho h3 h2 hl).mono ?_
  rintro e w' ⟨rfl, r⟩
  exact ⟨rfl, PW.next h2 h3 r⟩
theorem pwUsed {A0 w : World} {p q : Nat} {m : M} (h : PW A0 w p q m) : Calls Try.prog 13 #[ptr p] w fun e w' => e = .returned (.int .i64 (m.used : Int)) ∧ w = w' := by
  obtain ⟨A, ⟨F, G, a, _⟩, _⟩ := h
  exact usedS a
theorem pwAlike {A0 w : World} {p q : Nat} {m : M} (h : PW A0 w p q m) (ht : NT m) (hn : m.ths.length ≤ 1000000) (ref : Int) (h0 : 0 ≤ ref) (h1 : ref < 18446744073709551616) :
    Calls Try.prog 14 #[ptr p, ptr q, .int .u64 ref] w fun e w' => e = .returned (.bool true) ∧ PW A0 w' p q m ∧ Below w.heap.size w w' := by
  have hp := h
  obtain ⟨A, a, _, _⟩ := h
  refine (alikeP a ht hn ref h0 h1).mono ?_
  rintro e w' ⟨rfl, hb⟩
  exact ⟨rfl, hp.below hb, hb⟩
theorem pwWhole {A0 w : World} {p q : Nat} {m : M} (h : PW A0 w p q m) (ht : NT m) (hn : m.ths.length ≤ 1000000) (ref : Int) (h0 : 0 ≤ ref) (h1 : ref < 18446744073709551616) :
    Calls Try.prog 15 #[ptr p, ptr q, .int .u64 ref] w fun e w' => e = .returned (.bool true) ∧ PW A0 w' p q m := by
  have hp := h
  obtain ⟨A, a, _, _⟩ := h
  refine (wholeP a ht hn ref h0 h1).mono ?_
  rintro e w' ⟨rfl, hb⟩
  exact ⟨rfl, hp.below hb⟩
theorem pwNew (w : World) (L : Int) (hL : -9223372036854775808 ≤ L ∧ L < 9223372036854775808) {W : World} (hB : Below w.heap.size w W) : Calls Try.prog 10 #[.int .i64 L] W fun e w1 => ∃ p, e = .returned (ptr p) ∧ Calls Try.prog 11 #[.int .i64 L] w1 fun e w2 => ∃ q, e = .returned (ptr q) ∧ PW w w2 p q (M.new L) := by
  refine (newS W L hL.1 hL.2).mono ?_
  rintro e w1 ⟨rfl, F, h1, h2, h3⟩
  refine ⟨_, rfl, ?_⟩
  refine (newR w1 L hL.1 hL.2).mono ?_
  rintro e w2 ⟨rfl, G, k1, k2, k3⟩
  have hs := h3.size
  have hs0 := hB.size
  refine ⟨_, rfl, fun b => F b ∨ G b, ⟨F, G, h1.below k3, k1, fun b x y => by have := h1.bd b x; have := k2 b y; omega, fun b => Iff.rfl⟩, fun b hb => ?_, (hB.trans (h3.mono hs0)).trans (k3.mono (by omega))⟩
  rcases hb with y | y
  · have := h2 b y; omega
  · have := k2 b y; omega
/-- The cells of a call. -/
def C8 (w : World) (b o : Nat) (kd : Int) (tx : ByteArray) (nn mm : Int) (wo : Option Addr) (l wcap : Nat) (ref i word : Int) : Prop := w.cell? ⟨b, o, none⟩ = some (.int .i64 kd) ∧ w.cell? ⟨b, o + 1, none⟩ = some (.string tx) ∧ w.cell? ⟨b, o + 2, none⟩ = some (.int .i64 nn) ∧ w.cell? ⟨b, o + 3, none⟩ = some (.int .i64 mm) ∧ w.cell? ⟨b, o + 4, none⟩ = some (.slice wo l wcap) ∧ w.cell? ⟨b, o + 5, none⟩ = some (.int .u64 ref) ∧ w.cell? ⟨b, o + 6, none⟩ = some (.int .i64 i) ∧ w.cell? ⟨b, o + 7, none⟩ = some (.int .u64 word)
theorem wpAnyH_strengthen {ops : Array Oper} {Q : Exit → Act → World → Prop} {md : Region.Mode} {S S' : World → Prop} (h : ∀ w, S' w → S w) : ∀ {fuel : Nat} {listed : Array Bool} {a : Act} {w : World},
    wpAnyH Try.prog md ops Q S' fuel listed a w → wpAnyH Try.prog md ops Q S fuel listed a w
  | 0, _, _, _, hh => hh
  | _ + 1, _, _, _, hh => ⟨hh.1, fun i hi => wpOp_mono (fun _ _ hr => ⟨h _ hr.1, wpAnyH_strengthen h hr.2⟩) (hh.2 i hi)⟩
theorem take_lit {l : List Oper} {Q : Exit → Act → World → Prop} {md : Region.Mode} {S : World → Prop} {i : Nat} {oi : Oper} {v : Value} {fuel : Nat} {listed : Array Bool} {a : Act} {w : World} (hi : l[i]? = some oi)
    (hs : Region.noSelect l.toArray = true) (hf : Region.free md l.toArray listed i = true) (hr : (Region.ready md l.toArray listed).contains i = true)
    (hQ : ∀ c a w, Q (.panic c) (a.put oi.dst v) w → Q (.panic c) a w) (hy : YieldsIf Try.prog l.toArray S oi v a) (hS : S w)
    (h : wpAnyH Try.prog md l.toArray Q S fuel (listed.setIfInBounds i true) (a.put oi.dst v) w) : wpAnyH Try.prog md l.toArray Q S (fuel + 1) listed a w :=
  wpAnyH_take (by simpa using hi) hs hf hr hQ hy hS h
theorem ready_lit {l : List Oper} {Q : Exit → Act → World → Prop} {md : Region.Mode} {S : World → Prop} {fuel : Nat} {listed : Array Bool} {a : Act} {w : World} {i : Nat} {o : Oper} (ho : l[i]? = some o)
    (h : ∀ K' : Act → World → Prop, Shut (∀ a w, S w → (S w → wpAnyH Try.prog md l.toArray Q S fuel (listed.setIfInBounds i true) a w) → K' a w) → if Region.wanted o (yielded l.toArray a.tmps) = true then Oper.wp Try.prog o a w K' Q else K' (a.put o.dst undef) w) :
    AllReadyH Try.prog md l.toArray Q S fuel listed a w [i] :=
  AllReadyH.cons (by simpa using ho) h AllReadyH.nil
def PL (w : World) (p q n : Nat) (iv : Value) (wr : World) : Prop := ∃ (k : Nat) (m : M), k ≤ n ∧ iv = .int .i64 (k : Int) ∧ m.ths.length ≤ k ∧ NT m ∧ PW w wr p q m
def PE (w : World) (p q : Nat) (m : M) (iv : Value) (wr : World) : Prop := ∃ k : Nat, k ≤ m.ths.length + 2 ∧ iv = .int .i64 (k : Int) ∧ PW w wr p q m
theorem NT.new (L : Int) : NT (M.new L) := by intro t ht; simp [M.new] at ht
set_option maxRecDepth 100000 in
set_option maxHeartbeats 4000000 in
theorem plays_walk (w : World) (L : Int) (hL : -9223372036854775808 ≤ L ∧ L < 9223372036854775808) (ao : Option Addr) (cap : Nat) (ss : List Op) (hx : OpsAt w ao cap ss) : Calls Try.prog 3 #[.int .i64 L, .slice ao ss.length cap] w fun e w' => e = .returned (.bool true) ∧ Below w.heap.size w w' := by
  obtain ⟨n, hn⟩ : ∃ n, Hid (ss.length = n) := ⟨_, rfl⟩
  have hcl := hx.capl
  have hcm := hx.capm
  unfold maxLen at hcm
  rw [hn.out] at hcl ⊢
  have HX : Hid (OpsAt w ao cap ss) := hx
  have HNEW : Hid (∀ W, Below w.heap.size w W → _) := fun W hB => pwNew w L hL hB
  clear hx
  go_enter Try.func3, Try.ntmps3
  go_wp2_with fail
  go_loopw [5, 6] (fun nv iv wr => SH w ss nv iv wr) (fun _ i _ => n - (intOf i).toNat)
  case atStart => exact ⟨0, 131072, Nat.zero_le _, rfl, rfl, by omega, by omega, fun _ j hj => by omega, Below.refl _ _⟩
  case round =>
    obtain ⟨k, N, hk, rfl, rfl, hN1, hN2, hall, hB⟩ := hrel
    rw [hn.out] at hk
    have HA : Hid (0 ≤ N → ∀ j, j < k → (ss.getD j dO).text.size ≤ 131072 ∧ (ss.getD j dO).words.length ≤ 131072) := hall
    have HB : Hid (Below w.heap.size w wr) := hB
    clear hall
    have hwk := hsWorks HB.out
    by_cases hneg : N < 0
    · clear hB
      by_cases hlt : k < n
      all_goals
        go_wp2_with (go_at_call 9; refine hwk.mono ?_; rintro e w3 ⟨rfl, hB3⟩)
        go_ret
        exact ⟨rfl, hB3⟩
    by_cases hlt : k < n
    · have HL : Hid (k < ss.length) := by unfold Hid; rw [hn.out]; exact hlt
      obtain ⟨b, o, s, rfl, hsd, hmem, hok, hbl, hc⟩ := HX.out.get hB HL.out
      have c1 := hc 1 (by omega)
      have c4 := hc 4 (by omega)
      have htx := hok.txt
      have hwl := hok.wl
      have HN : Hid (∀ M : Int, 0 ≤ M → 0 ≤ N - (s.text.size : Int) - (s.words.length : Int) - M → ∀ j, j < k + 1 → (ss.getD j dO).text.size ≤ 131072 ∧ (ss.getD j dO).words.length ≤ 131072) := fun M hM => sh_next hsd rfl rfl hM hN1 HA.out
      obtain ⟨kd, tx, nn, mm, ws, ref, i, word, wo, wcap⟩ := s
      simp only [opV, List.getElem?_cons_zero, List.getElem?_cons_succ] at c1 c4 htx hwl HN
      obtain ⟨l, hlw⟩ : ∃ l, Hid (ws.length = l) := ⟨_, rfl⟩
      rw [hlw.out] at c4 hwl HN
      have HBN : Hid (∀ q, Below w.heap.size w (wr.drewN q)) := fun q => HB.out.trans ((below_drewN wr q).mono HB.out.size)
      clear hB hok hmem hc hsd HA hbl hwk
      go_wp2_with fail
      go_quiet (fail)
      go_wp2_with fail
      go_roundw
      case rel => exact ⟨k + 1, N - (tx.size : Int) - (l : Int), HL.out, rfl, by simp, by omega, by omega, fun h => HN.out 0 (by omega) (by omega), HBN.out _⟩
      case measure => simp [intOf]; omega
    · have hkn : k = n := by omega
      by_cases hl2 : 200 < n
      · clear hB
        go_wp2_with (go_at_call 9; refine hwk.mono ?_; rintro e w3 ⟨rfl, hB3⟩)
        go_ret
        exact ⟨rfl, hB3⟩
      have hn200 : n ≤ 200 := by omega
      subst hkn
      have HO : Hid (∀ s ∈ ss, s.text.size ≤ 131072 ∧ s.words.length ≤ 131072) := short_all hn.out (HA.out (by omega))
      have hnew := HNEW.out wr HB.out
      clear hB hwk HA hl2
      go_wp2_with (first | (go_at_call 10; refine hnew.mono ?_; clear hnew; rintro e w1 ⟨p, rfl, hnew2⟩) | (go_at_call 11; refine hnew2.mono ?_; clear hnew2; rintro e w2 ⟨q, rfl, hp⟩; have HP : Hid _ := hp; clear hp))
      clear HNEW
      go_loopw [9] (fun iv wr => PL w p q k iv wr) (fun i _ => k - (intOf i).toNat)
      case atStart => exact ⟨0, M.new L, Nat.zero_le _, rfl, Nat.le_refl _, NT.new L, HP.out⟩
      case round =>
        clear HP
        obtain ⟨j, m, hj, rfl, hml, hnt, hpw⟩ := hrel
        by_cases hjk : j < k
        · have HL : Hid (j < ss.length) := by unfold Hid; rw [hn.out]; exact hjk
          obtain ⟨bb, o, s, rfl, hsd, hmem, hok, hbl, hc⟩ := HX.out.get hpw.bel HL.out
          have HCW : Hid (∀ W, Below w.heap.size w W → ∀ z, z < 8 → W.cell? ⟨bb, o + j * 8 + z, none⟩ = (opV s)[z]?) := by
            intro W hB z hz
            obtain ⟨b', o', s', e', e2, -, -, -, hc'⟩ := HX.out.get hB HL.out
            cases e'
            rw [hsd] at e2
            subst e2
            exact hc' z hz
          have hpd := hpw.below (Below.refl _ _).drew
          have hdo := pwDoes hpd (by omega) hok (HO.out s hmem)
          have hf := run_facts m s
          have HLEN : Hid ((m.ran s).ths.length ≤ j + 1) := by
            unfold Hid
            by_cases hx : makes s = true ∧ m.runT s = 0
            · have := (hf.made hx.1 hx.2).2; omega
            · have := hf.none (by cases hmk : makes s; exact .inl rfl; exact .inr fun e => hx ⟨hmk, e⟩); omega
          have HNT : Hid (NT (m.ran s)) := hnt.ran s
          have hrf := hok.ref
          have HD8 : Hid (∀ W, Below w.heap.size w W → _) := fun W hB => And.intro (HCW.out W hB 0 (by omega)) (And.intro (HCW.out W hB 1 (by omega)) (And.intro (HCW.out W hB 2 (by omega)) (And.intro (HCW.out W hB 3 (by omega)) (And.intro (HCW.out W hB 4 (by omega)) (And.intro (HCW.out W hB 5 (by omega)) (And.intro (HCW.out W hB 6 (by omega)) (HCW.out W hB 7 (by omega))))))))
          have HDR : Hid (Below w.heap.size w wr.drew) := hpd.bel
          obtain ⟨kd, tx, nn, mm, ws, ref, i, word, wo, wcap⟩ := s
          simp only [opV, List.getElem?_cons_zero, List.getElem?_cons_succ, Nat.add_zero] at hdo HD8
          simp only at hrf
          obtain ⟨m', hm'⟩ : ∃ m', Hid (m.ran ⟨kd, tx, nn, mm, ws, ref, i, word, wo, wcap⟩ = m') := ⟨_, rfl⟩
          rw [hm'.out] at hdo HLEN HNT
          obtain ⟨U, hU⟩ : ∃ U, Hid (m'.used = U) := ⟨_, rfl⟩
          have HAFT : Hid (∀ w2, PW w w2 p q m' → (Calls Try.prog 13 #[ptr p] w2 fun e w' => e = .returned (.int .i64 (U : Int)) ∧ w2 = w') ∧ w2.cell? ⟨q, 1, none⟩ = some (.int .i64 (U : Int)) ∧ (Calls Try.prog 14 #[ptr p, ptr q, .int .u64 ref] w2 fun e w' => e = .returned (.bool true) ∧ PW w w' p q m' ∧ w'.cell? ⟨q, 1, none⟩ = some (.int .i64 (U : Int)))) := by
            intro w2 h2
            have u1 := pwUsed h2
            obtain ⟨a1, a2, a3, a4, -⟩ := h2.cells
            have u2 := pwAlike h2 HNT.out (by have := HLEN.out; omega) ref hrf.1 hrf.2
            rw [hU.out] at u1 a4
            refine ⟨u1, a4, u2.mono ?_⟩
            rintro e w' ⟨rfl, h3, h4⟩
            obtain ⟨b1, b2, b3, b4, -⟩ := h3.cells
            rw [hU.out] at b4
            exact ⟨rfl, h3, b4⟩
          obtain ⟨c0, c1, c2, c3, c4, c5, c6, c7⟩ := HD8.out wr.drew HDR.out
          obtain ⟨l, hlw⟩ : ∃ l, Hid (ws.length = l) := ⟨_, rfl⟩
          rw [hlw.out] at c4 hdo HD8
          have i1x : (0 : Int) ≤ (j : Int) := by omega
          have i2x : (j : Int) < (k : Int) := by omega
          clear hpw hpd hc hok hmem hsd hm' hf hbl HCW hnt hU hlw hrf
          go_wp2_with fail
          refine wp_region_noPanic ?_
          refine wp_region_held_drew (S := fun w' => C8 w' bb (o + j * 8) kd tx nn mm wo l wcap ref i word) (by kernel_rfl) (HD8.out wr.drew HDR.out) (fun hS0 => ?_)
          refine take_lit (i := 0) (v := ?_) rfl (by kernel_rfl) (by kernel_rfl) (by kernel_rfl) (fun _ _ _ h => h) (Or.inl ⟨by rfl, ?_⟩) hS0 ?_
          rotate_left 1
          · (intro w' hSw; obtain ⟨s0, s1, s2, s3, s4, s5, s6, s7⟩ := hSw; go_simp <;> with_reducible rfl)
          try simp only [Act.put, List.setIfInBounds_toArray, List.set_cons_zero, List.set_cons_succ]
          refine take_lit (i := 1) (v := ?_) rfl (by kernel_rfl) (by kernel_rfl) (by kernel_rfl) (fun _ _ _ h => h) (Or.inl ⟨by rfl, ?_⟩) hS0 ?_
          rotate_left 1
          · (intro w' hSw; obtain ⟨s0, s1, s2, s3, s4, s5, s6, s7⟩ := hSw; go_simp <;> with_reducible rfl)
          try simp only [Act.put, List.setIfInBounds_toArray, List.set_cons_zero, List.set_cons_succ]
          refine take_lit (i := 2) (v := ?_) rfl (by kernel_rfl) (by kernel_rfl) (by kernel_rfl) (fun _ _ _ h => h) (Or.inl ⟨by rfl, ?_⟩) hS0 ?_
          rotate_left 1
          · (intro w' hSw; obtain ⟨s0, s1, s2, s3, s4, s5, s6, s7⟩ := hSw; go_simp <;> with_reducible rfl)
          try simp only [Act.put, List.setIfInBounds_toArray, List.set_cons_zero, List.set_cons_succ]
          refine take_lit (i := 3) (v := ?_) rfl (by kernel_rfl) (by kernel_rfl) (by kernel_rfl) (fun _ _ _ h => h) (Or.inl ⟨by rfl, ?_⟩) hS0 ?_
          rotate_left 1
          · (intro w' hSw; obtain ⟨s0, s1, s2, s3, s4, s5, s6, s7⟩ := hSw; go_simp <;> with_reducible rfl)
          try simp only [Act.put, List.setIfInBounds_toArray, List.set_cons_zero, List.set_cons_succ]
          refine take_lit (i := 4) (v := ?_) rfl (by kernel_rfl) (by kernel_rfl) (by kernel_rfl) (fun _ _ _ h => h) (Or.inl ⟨by rfl, ?_⟩) hS0 ?_
          rotate_left 1
          · (intro w' hSw; obtain ⟨s0, s1, s2, s3, s4, s5, s6, s7⟩ := hSw; go_simp <;> with_reducible rfl)
          try simp only [Act.put, List.setIfInBounds_toArray, List.set_cons_zero, List.set_cons_succ]
          refine take_lit (i := 5) (v := ?_) rfl (by kernel_rfl) (by kernel_rfl) (by kernel_rfl) (fun _ _ _ h => h) (Or.inl ⟨by rfl, ?_⟩) hS0 ?_
          rotate_left 1
          · (intro w' hSw; obtain ⟨s0, s1, s2, s3, s4, s5, s6, s7⟩ := hSw; go_simp <;> with_reducible rfl)
          try simp only [Act.put, List.setIfInBounds_toArray, List.set_cons_zero, List.set_cons_succ]
          refine wpAnyH_ready (rs := [6]) (by kernel_rfl) (by simp) ?_
          refine ready_lit rfl (fun K hK => ?_)
          go_simp
          refine hdo.mono ?_
          clear hdo
          rintro e w2 ⟨rfl, h2⟩
          obtain ⟨u1, u2, u3⟩ := HAFT.out w2 h2
          have hC2 := HD8.out w2 h2.bel
          clear h2
          go_wp2_with fail
          refine hK.out _ _ hC2 (fun hHeld => ?_)
          clear hK K hHeld
          try simp only [Act.put, List.setIfInBounds_toArray, List.set_cons_zero, List.set_cons_succ]
          refine wpAnyH_strengthen (S' := fun w' => C8 w' bb (o + j * 8) kd tx nn mm wo l wcap ref i word ∧ w'.cell? ⟨q, 1, none⟩ = some (.int .i64 (U : Int))) (fun w' h => h.1) ?_
          have hS1 : C8 w2 bb (o + j * 8) kd tx nn mm wo l wcap ref i word ∧ w2.cell? ⟨q, 1, none⟩ = some (.int .i64 (U : Int)) := ⟨hC2, u2⟩
          refine take_lit (i := 7) (v := ?_) rfl (by kernel_rfl) (by kernel_rfl) (by kernel_rfl) (fun _ _ _ h => h) (Or.inl ⟨by rfl, ?_⟩) hS1 ?_
          rotate_left 1
          · (intro w' hSw; obtain ⟨⟨s0, s1, s2, s3, s4, s5, s6, s7⟩, sU⟩ := hSw; go_simp <;> with_reducible rfl)
          try simp only [Act.put, List.setIfInBounds_toArray, List.set_cons_zero, List.set_cons_succ]
          refine take_lit (i := 8) (v := ?_) rfl (by kernel_rfl) (by kernel_rfl) (by kernel_rfl) (fun _ _ _ h => h) (Or.inl ⟨by rfl, ?_⟩) hS1 ?_
          rotate_left 1
          · (intro w' hSw; obtain ⟨⟨s0, s1, s2, s3, s4, s5, s6, s7⟩, sU⟩ := hSw; go_simp <;> with_reducible rfl)
          try simp only [Act.put, List.setIfInBounds_toArray, List.set_cons_zero, List.set_cons_succ]
          refine take_lit (i := 9) (v := ?_) rfl (by kernel_rfl) (by kernel_rfl) (by kernel_rfl) (fun _ _ _ h => h) (Or.inl ⟨by rfl, ?_⟩) hS1 ?_
          rotate_left 1
          · (intro w' hSw; obtain ⟨⟨s0, s1, s2, s3, s4, s5, s6, s7⟩, sU⟩ := hSw; go_simp <;> with_reducible rfl)
          try simp only [Act.put, List.setIfInBounds_toArray, List.set_cons_zero, List.set_cons_succ]
          refine take_lit (i := 11) (v := ?_) rfl (by kernel_rfl) (by kernel_rfl) (by kernel_rfl) (fun _ _ _ h => h) (Or.inl ⟨by rfl, ?_⟩) hS1 ?_
          rotate_left 1
          · (intro w' hSw; obtain ⟨⟨s0, s1, s2, s3, s4, s5, s6, s7⟩, sU⟩ := hSw; go_simp <;> with_reducible rfl)
          try simp only [Act.put, List.setIfInBounds_toArray, List.set_cons_zero, List.set_cons_succ]
          refine take_lit (i := 12) (v := ?_) rfl (by kernel_rfl) (by kernel_rfl) (by kernel_rfl) (fun _ _ _ h => h) (Or.inl ⟨by rfl, ?_⟩) hS1 ?_
          rotate_left 1
          · (intro w' hSw; obtain ⟨⟨s0, s1, s2, s3, s4, s5, s6, s7⟩, sU⟩ := hSw; go_simp <;> with_reducible rfl)
          try simp only [Act.put, List.setIfInBounds_toArray, List.set_cons_zero, List.set_cons_succ]
          refine take_lit (i := 13) (v := ?_) rfl (by kernel_rfl) (by kernel_rfl) (by kernel_rfl) (fun _ _ _ h => h) (Or.inl ⟨by rfl, ?_⟩) hS1 ?_
          rotate_left 1
          · (intro w' hSw; obtain ⟨⟨s0, s1, s2, s3, s4, s5, s6, s7⟩, sU⟩ := hSw; go_simp <;> with_reducible rfl)
          try simp only [Act.put, List.setIfInBounds_toArray, List.set_cons_zero, List.set_cons_succ]
          refine take_lit (i := 14) (v := ?_) rfl (by kernel_rfl) (by kernel_rfl) (by kernel_rfl) (fun _ _ _ h => h) (Or.inl ⟨by rfl, ?_⟩) hS1 ?_
          rotate_left 1
          · (intro w' hSw; obtain ⟨⟨s0, s1, s2, s3, s4, s5, s6, s7⟩, sU⟩ := hSw; go_simp <;> with_reducible rfl)
          try simp only [Act.put, List.setIfInBounds_toArray, List.set_cons_zero, List.set_cons_succ]
          refine wpAnyH_ready (rs := [10]) (by kernel_rfl) (by simp) ?_
          refine ready_lit rfl (fun K hK => ?_)
          go_simp
          refine u1.mono ?_
          clear u1
          rintro e w3 ⟨rfl, rfl⟩
          go_wp2_with fail
          refine hK.out _ _ hS1 (fun hHeld => ?_)
          clear hK K hHeld
          try simp only [Act.put, List.setIfInBounds_toArray, List.set_cons_zero, List.set_cons_succ]
          refine take_lit (i := 15) (v := ?_) rfl (by kernel_rfl) (by kernel_rfl) (by kernel_rfl) (fun _ _ _ h => h) (Or.inl ⟨by rfl, ?_⟩) hS1 ?_
          rotate_left 1
          · (intro w' hSw; obtain ⟨⟨s0, s1, s2, s3, s4, s5, s6, s7⟩, sU⟩ := hSw; go_simp <;> with_reducible rfl)
          try simp only [Act.put, List.setIfInBounds_toArray, List.set_cons_zero, List.set_cons_succ]
          refine take_lit (i := 16) (v := ?_) rfl (by kernel_rfl) (by kernel_rfl) (by kernel_rfl) (fun _ _ _ h => h) (Or.inl ⟨by rfl, ?_⟩) hS1 ?_
          rotate_left 1
          · (intro w' hSw; obtain ⟨⟨s0, s1, s2, s3, s4, s5, s6, s7⟩, sU⟩ := hSw; go_simp <;> with_reducible rfl)
          try simp only [Act.put, List.setIfInBounds_toArray, List.set_cons_zero, List.set_cons_succ]
          refine take_lit (i := 17) (v := ?_) rfl (by kernel_rfl) (by kernel_rfl) (by kernel_rfl) (fun _ _ _ h => h) (Or.inl ⟨by rfl, ?_⟩) hS1 ?_
          rotate_left 1
          · (intro w' hSw; obtain ⟨⟨s0, s1, s2, s3, s4, s5, s6, s7⟩, sU⟩ := hSw; go_simp <;> with_reducible rfl)
          try simp only [Act.put, List.setIfInBounds_toArray, List.set_cons_zero, List.set_cons_succ]
          refine take_lit (i := 18) (v := ?_) rfl (by kernel_rfl) (by kernel_rfl) (by kernel_rfl) (fun _ _ _ h => h) (Or.inl ⟨by rfl, ?_⟩) hS1 ?_
          rotate_left 1
          · (intro w' hSw; obtain ⟨⟨s0, s1, s2, s3, s4, s5, s6, s7⟩, sU⟩ := hSw; go_simp <;> with_reducible rfl)
          try simp only [Act.put, List.setIfInBounds_toArray, List.set_cons_zero, List.set_cons_succ]
          refine take_lit (i := 19) (v := ?_) rfl (by kernel_rfl) (by kernel_rfl) (by kernel_rfl) (fun _ _ _ h => h) (Or.inl ⟨by rfl, ?_⟩) hS1 ?_
          rotate_left 1
          · (intro w' hSw; obtain ⟨⟨s0, s1, s2, s3, s4, s5, s6, s7⟩, sU⟩ := hSw; go_simp <;> with_reducible rfl)
          try simp only [Act.put, List.setIfInBounds_toArray, List.set_cons_zero, List.set_cons_succ]
          refine take_lit (i := 20) (v := ?_) rfl (by kernel_rfl) (by kernel_rfl) (by kernel_rfl) (fun _ _ _ h => h) (Or.inl ⟨by rfl, ?_⟩) hS1 ?_
          rotate_left 1
          · (intro w' hSw; obtain ⟨⟨s0, s1, s2, s3, s4, s5, s6, s7⟩, sU⟩ := hSw; go_simp <;> with_reducible rfl)
          try simp only [Act.put, List.setIfInBounds_toArray, List.set_cons_zero, List.set_cons_succ]
          refine take_lit (i := 21) (v := ?_) rfl (by kernel_rfl) (by kernel_rfl) (by kernel_rfl) (fun _ _ _ h => h) (Or.inl ⟨by rfl, ?_⟩) hS1 ?_
          rotate_left 1
          · (intro w' hSw; obtain ⟨⟨s0, s1, s2, s3, s4, s5, s6, s7⟩, sU⟩ := hSw; go_simp <;> with_reducible rfl)
          try simp only [Act.put, List.setIfInBounds_toArray, List.set_cons_zero, List.set_cons_succ]
          refine take_lit (i := 22) (v := ?_) rfl (by kernel_rfl) (by kernel_rfl) (by kernel_rfl) (fun _ _ _ h => h) (Or.inl ⟨by rfl, ?_⟩) hS1 ?_
          rotate_left 1
          · (intro w' hSw; obtain ⟨⟨s0, s1, s2, s3, s4, s5, s6, s7⟩, sU⟩ := hSw; go_simp <;> with_reducible rfl)
          try simp only [Act.put, List.setIfInBounds_toArray, List.set_cons_zero, List.set_cons_succ]
          refine take_lit (i := 23) (v := ?_) rfl (by kernel_rfl) (by kernel_rfl) (by kernel_rfl) (fun _ _ _ h => h) (Or.inl ⟨by rfl, ?_⟩) hS1 ?_
          rotate_left 1
          · (intro w' hSw; obtain ⟨⟨s0, s1, s2, s3, s4, s5, s6, s7⟩, sU⟩ := hSw; go_simp <;> with_reducible rfl)
          try simp only [Act.put, List.setIfInBounds_toArray, List.set_cons_zero, List.set_cons_succ]
          refine take_lit (i := 24) (v := ?_) rfl (by kernel_rfl) (by kernel_rfl) (by kernel_rfl) (fun _ _ _ h => h) (Or.inl ⟨by rfl, ?_⟩) hS1 ?_
          rotate_left 1
          · (intro w' hSw; obtain ⟨⟨s0, s1, s2, s3, s4, s5, s6, s7⟩, sU⟩ := hSw; go_simp <;> with_reducible rfl)
          try simp only [Act.put, List.setIfInBounds_toArray, List.set_cons_zero, List.set_cons_succ]
          refine wpAnyH_ready (rs := [25]) (by kernel_rfl) (by simp) ?_
          refine ready_lit rfl (fun K hK => ?_)
          go_simp
          refine u3.mono ?_
          clear u3
          rintro e w4 ⟨rfl, h4, u4⟩
          have hS2 : C8 w4 bb (o + j * 8) kd tx nn mm wo l wcap ref i word ∧ w4.cell? ⟨q, 1, none⟩ = some (.int .i64 (U : Int)) := ⟨HD8.out w4 h4.bel, u4⟩
          have H4 : Hid _ := h4
          clear h4
          go_wp2_with fail
          refine hK.out _ _ hS2 (fun hHeld => ?_)
          clear hK K hHeld
          try simp only [Act.put, List.setIfInBounds_toArray, List.set_cons_zero, List.set_cons_succ]
          refine take_lit (i := 26) (v := ?_) rfl (by kernel_rfl) (by kernel_rfl) (by kernel_rfl) (fun _ _ _ h => h) (Or.inl ⟨by rfl, ?_⟩) hS2 ?_
          rotate_left 1
          · (intro w' hSw; obtain ⟨⟨s0, s1, s2, s3, s4, s5, s6, s7⟩, sU⟩ := hSw; go_simp <;> with_reducible rfl)
          try simp only [Act.put, List.setIfInBounds_toArray, List.set_cons_zero, List.set_cons_succ]
          refine take_lit (i := 27) (v := ?_) rfl (by kernel_rfl) (by kernel_rfl) (by kernel_rfl) (fun _ _ _ h => h) (Or.inl ⟨by rfl, ?_⟩) hS2 ?_
          rotate_left 1
          · (intro w' hSw; obtain ⟨⟨s0, s1, s2, s3, s4, s5, s6, s7⟩, sU⟩ := hSw; go_simp <;> with_reducible rfl)
          try simp only [Act.put, List.setIfInBounds_toArray, List.set_cons_zero, List.set_cons_succ]
          refine wpAnyH_done (by kernel_rfl) ?_ _
          refine NoPanic.normal ?_
          go_wp2_with fail
          go_roundw
          case rel => exact ⟨j + 1, m', hjk, by simp, HLEN.out, HNT.out, H4.out⟩
          case measure => simp [intOf]; omega
        · have HPW : Hid (PW w wr p q m) := hpw
          have HNT : Hid (NT m) := hnt
          obtain ⟨t, ht⟩ : ∃ t, Hid (m.ths.length = t) := ⟨_, rfl⟩
          rw [ht.out] at hml
          have ht200 : t ≤ 200 := by omega
          clear hpw hnt
          go_wp2_with fail
          go_loopw [10] (fun iv wr => PE w p q m iv wr) (fun i _ => t + 2 - (intOf i).toNat)
          case atStart => exact ⟨0, Nat.zero_le _, rfl, HPW.out⟩
          case round =>
            clear HPW
            obtain ⟨c, hc, rfl, hp⟩ := hrel
            obtain ⟨ao2, cap2, x0, x1, x2, x3⟩ := hp.cells
            rw [ht.out] at hc x0 x2
            unfold maxLen at x3
            by_cases g : c ≤ t + 1
            · have hwh := pwWhole hp HNT.out (by rw [ht.out]; omega) (c : Int) (by omega) (by omega)
              clear hp
              go_wp2_with (go_at_call 15; refine hwh.mono ?_; rintro e w2 ⟨rfl, h2⟩; have H2 : Hid _ := h2; clear h2)
              go_roundw
              case rel => exact ⟨c + 1, by rw [ht.out]; omega, by simp, H2.out⟩
              case measure => simp [intOf]; omega
            · have hwk := hsWorks hp.bel
              clear hp
              go_wp2_with (go_at_call 9; refine hwk.mono ?_; rintro e w2 ⟨rfl, hB2⟩)
              go_ret
              exact ⟨rfl, hB2⟩
end Go.Proofs.Ytcohgbelcbniaaa
