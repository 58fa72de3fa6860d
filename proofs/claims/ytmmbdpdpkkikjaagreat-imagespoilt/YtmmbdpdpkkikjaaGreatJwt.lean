/-
  THE WRITER OF A BODY: has, put, number, text.
  THE WRITER OF A BODY: text, numbers, fields, typ, routine.
  THE WRITER OF A BODY: numbers, fields.
  THE WRITER OF A BODY: a type, a function.
  THE WRITER OF A BODY: a module.
-/
import Derived.Test.YtmmbdpdpkkikjaaGreatJbs
import Derived.Test.YtmmbdpdpkkikjaaGreatJv
import Derived.Test.YtmmbdpdpkkikjaaGreatJck
import Derived.Lib.AppendStr
namespace Go.Proofs.YtmmbdpdpkkikjaaGreat
open Go.RowKit
set_option linter.unusedVariables false

/-- What a writer has written, and whether it has no room. -/
abbrev Ws := List Nat × Bool
def room : Nat := 2097140
def Ws.put (s : Ws) (ys : List Nat) : Ws := if s.2 = true then s else if room < s.1.length + ys.length then (s.1, true) else (s.1 ++ ys, false)
/-- A writer in memory, its row in blocks from B on. -/
def IwAt (w : World) (p B : Nat) (s : Ws) : Prop := s.1.length ≤ room ∧ ∃ a c, Own w p #[.slice a s.1.length c, .bool s.2] 88 ∧ Rw w 5 1 (.slice a s.1.length c) s.1.length (nums s.1) ∧ ∀ b, (Value.slice a s.1.length c).ownBlock = some b → B ≤ b
/-- What a writer's call keeps: all blocks but its own, and all that hold no bytes. -/
structure IwFr (p B : Nat) (w w' : World) : Prop where
  fr : Fr (fun b => b = p ∨ B ≤ b) w w'
  typ : ∀ g cs t, Own w g cs t → t ≠ 5 → g ≠ p → Own w' g cs t
theorem IwFr.trans {p B : Nat} {a b c : World} (h : IwFr p B a b) (k : IwFr p B b c) : IwFr p B a c := ⟨h.fr.trans k.fr, fun g cs t h1 h2 h3 => k.typ g cs t (h.typ g cs t h1 h2 h3) h2 h3⟩
theorem IwFr.of {p B : Nat} {w w' : World} (h : Below w.heap.size w w') : IwFr p B w w' := ⟨Fr.of h, fun g cs t h1 _ _ => h1.below h⟩
theorem IwFr.refl (p B : Nat) (w : World) : IwFr p B w w := ⟨Fr.refl _ _, fun _ _ _ h _ _ => h⟩
theorem IwFr.set {p B : Nat} {a w : World} (h : IwFr p B a w) (i : Nat) (u : Value) : IwFr p B a (w.setCell ⟨p, i, none⟩ u) := ⟨h.fr.set (g := p) (.inr (.inl rfl)) i u, fun g cs t h1 h2 h3 => (h.typ g cs t h1 h2 h3).other (i := i) h3 u⟩
theorem IwAt.below {w w' : World} {p B : Nat} {s : Ws} (h : IwAt w p B s) (hb : Below w.heap.size w w') : IwAt w' p B s := by
  obtain ⟨h0, a, c, h1, h2, h3⟩ := h
  exact ⟨h0, a, c, h1.below hb, h2.belowR hb, h3⟩
def IwRet (p B : Nat) (s : Ws) (w : World) (e : Ending) (w' : World) : Prop := e = .returned (.tuple #[]) ∧ IwAt w' p B s ∧ IwFr p B w w'
set_option maxHeartbeats 1000000 in
set_option maxRecDepth 100000 in
theorem ihas_as {w : World} {p : Nat} {a : Option Addr} {L c : Nat} {o : Bool} (h : Own w p #[.slice a L c, .bool o] 88) (hL : L ≤ 2097140) (n : Nat) (hn : n ≤ 140737488355328) :
    Calls Tryz.prog 125 #[ptr p, .int .i64 (n : Int)] w fun e w' => e = .returned (.bool (!(o || decide (2097140 < L + n)))) ∧ w' = w.setCell ⟨p, 1, none⟩ (.bool (o || decide (2097140 < L + n))) := by
  obtain ⟨c0, c1, hf⟩ := own2 h
  have h1 : Own (w.setCell ⟨p, 1, none⟩ (.bool (o || decide (2097140 < L + n)))) p #[.slice a L c, .bool (o || decide (2097140 < L + n))] 88 := by simpa using h.set 1 (.bool (o || decide (2097140 < L + n)))
  cases o with
  | true =>
    obtain ⟨d0, d1, df⟩ := own2 h1
    rw [Bool.true_or] at *
    clear h h1
    go_enter Tryz.func125, Tryz.ntmps125
    go_wp2
    go_ret
    exact ⟨rfl, rfl⟩
  | false =>
    rw [Bool.false_or] at *
    by_cases hr : 2097140 < L + n
    · rw [decide_eq_true hr] at *
      obtain ⟨d0, d1, df⟩ := own2 h1
      have hq : 2097140 - (L : Int) < (n : Int) := by omega
      have hLi : (L : Int) ≤ 2097140 := by omega
      clear h h1 hr
      go_enter Tryz.func125, Tryz.ntmps125
      go_wp2
      go_ret
      exact ⟨rfl, rfl⟩
    · rw [decide_eq_false hr] at *
      obtain ⟨d0, d1, df⟩ := own2 h1
      have hq : (n : Int) ≤ 2097140 - (L : Int) := by omega
      have hqd : decide (2097140 - (L : Int) < (n : Int)) = false := by simp; omega
      have hLi : (L : Int) ≤ 2097140 := by omega
      clear h h1 hr
      go_enter Tryz.func125, Tryz.ntmps125
      go_wp2
      go_ret
      exact ⟨rfl, rfl⟩
set_option maxHeartbeats 1000000 in
set_option maxRecDepth 100000 in
theorem iput_as {w : World} {p B : Nat} {s : Ws} (h : IwAt w p B s) (hB : B ≤ w.heap.size) (ao : Option Addr) (m c : Nat) (ys : List Nat) (hl : Lies w ao ys) (hm : m = ys.length) (hno : ao = none → c = 0) (hmx : m ≤ 140737488355328) (hap : ys ≠ [] → ∀ b off, ao = some ⟨b, off, none⟩ → ¬ b = p) :
    Calls Tryz.prog 122 #[ptr p, .slice ao m c] w (IwRet p B (s.put ys) w) := by
  obtain ⟨h0, a0, cp, h1, h2, h3⟩ := h
  obtain ⟨xs, o⟩ := s
  simp only at h0 h1 h2 h3
  have h0 : xs.length ≤ 2097140 := h0
  have hne := h2.ne h1 (by decide)
  have hC := ihas_as h1 h0 m hmx
  obtain ⟨O, HO⟩ : ∃ O, Hid ((o || decide (2097140 < xs.length + m)) = O) := ⟨_, rfl⟩
  rw [HO.out] at hC
  have o1 : Own (w.setCell ⟨p, 1, none⟩ (.bool O)) p #[.slice a0 xs.length cp, .bool O] 88 := by simpa using h1.set 1 (.bool O)
  have r1 := h2.set hne 1 (.bool O)
  have hl1 : Lies (w.setCell ⟨p, 1, none⟩ (.bool O)) ao ys := by
    by_cases hy : ys = []
    · exact ⟨hl.1, hl.2.1, .inl hy⟩
    · exact hl.fr (F := fun b => b = p) ((Fr.refl (fun b => b = p) w).set (g := p) (.inr rfl) 1 _) (hap hy)
  have f1 : IwFr p B w (w.setCell ⟨p, 1, none⟩ (.bool O)) := (IwFr.refl p B w).set 1 _
  have hs1 : (w.setCell ⟨p, 1, none⟩ (.bool O)).heap.size = w.heap.size := by simp
  have HM : Hid (m = ys.length) := hm
  cases O with
  | true =>
    have HR : Hid (IwRet p B (Ws.put (xs, o) ys) w (.returned (.tuple #[])) (w.setCell ⟨p, 1, none⟩ (.bool true))) := by
      have e : Ws.put (xs, o) ys = (xs, true) := by
        unfold Ws.put
        simp only
        cases o with
        | true => rfl
        | false =>
          have := HO.out
          rw [Bool.false_or, decide_eq_true_eq, hm] at this
          rw [if_neg (by simp), if_pos (show room < xs.length + ys.length from this)]
      rw [Hid, e]
      exact ⟨rfl, ⟨h0, a0, cp, o1, r1, h3⟩, f1⟩
    clear h1 h2 h3 o1 r1 hl1 hl f1 HO hap h0 hs1 hB hm
    go_enter Tryz.func122, Tryz.ntmps122
    go_wp2_with fail
    refine hC.mono ?_
    rintro e w1 ⟨rfl, rfl⟩
    go_wp2
    go_end0
    exact HR.out
  | false =>
    have ho : o = false ∧ ¬ 2097140 < xs.length + m := by
      have := HO.out
      cases o <;> simp_all
    obtain ⟨c0, c1, hf⟩ := own2 o1
    have HZ : Hid (∀ ao' n' c' w', n' = (xs ++ ys).length → Rw w' 5 1 (.slice ao' n' c') (xs ++ ys).length (nums (xs ++ ys)) → (w.setCell ⟨p, 1, none⟩ (.bool false)).grownBy w' (Value.slice a0 xs.length cp).ownBlock → ((Value.slice ao' n' c').ownBlock = (Value.slice a0 xs.length cp).ownBlock ∨ (Value.slice ao' n' c').ownBlock = some (w.setCell ⟨p, 1, none⟩ (.bool false)).heap.size) →
        (w'.cell? ⟨p, 0, none⟩ = some (.slice a0 xs.length cp) ∧ w'.cell? ⟨p, 1, none⟩ = some (.bool false) ∧ (∀ j, w'.frozen? ⟨p, j, none⟩ = false)) ∧ IwRet p B (Ws.put (xs, o) ys) w (.returned (.tuple #[])) (w'.setCell ⟨p, 0, none⟩ (.slice ao' n' c'))) := by
      intro ao' n' c' w' g0 g1 g2 g3
      have o2 := o1.grown g2 (fun e => r1.ne o1 (by decide) (by rw [← e]))
      have hne2 := g1.ne o2 (by decide)
      have e : Ws.put (xs, o) ys = (xs ++ ys, false) := by
        unfold Ws.put
        simp only
        rw [ho.1, if_neg (by simp), if_neg (by unfold room; rw [← hm]; exact ho.2)]
      have hlen : (xs ++ ys).length ≤ 2097140 := by rw [List.length_append, ← hm]; omega
      subst g0
      refine ⟨own2 o2, ?_⟩
      rw [e]
      refine ⟨rfl, ⟨hlen, ao', c', by simpa using o2.set 0 (.slice ao' (xs ++ ys).length c'), g1.set hne2 0 _, fun b q => ?_⟩, f1.trans ⟨?_, ?_⟩⟩
      · rcases g3 with g3 | g3
        · exact h3 b (by rw [← g3]; exact q)
        · rw [g3] at q; cases q; rw [hs1]; exact hB
      · exact ((Fr.refl (fun b => b = p ∨ B ≤ b) _).grown g2 (fun k _ e => .inr (h3 k e))).set (g := p) (.inr (.inl rfl)) 0 _
      · exact fun g cs t k1 k2 k3 => (k1.grown g2 (fun e => r1.ne k1 (Ne.symm k2) e.symm)).other (i := 0) k3 _
    have HSM : Hid (xs.length + m ≤ 100000000000) := by unfold Hid; omega
    clear h1 h2 h3 hl f1 HO hap ho h0 hs1 hB hm
    go_enter Tryz.func122, Tryz.ntmps122
    go_wp2_with fail
    refine hC.mono ?_
    rintro e w1 ⟨rfl, rfl⟩
    clear hC
    go_wp2_with (refine wpList_appL (by rfl) (.tmp 12) (.tmp 13) (by rfl) _ xs (by rfl) r1 ao m c ys (by rfl) hl1 HM.out hno HSM.out ?_; intro ao' n' c' w' g0 g1 g2 g3; obtain ⟨⟨d0, d1, df⟩, HR⟩ := HZ.out ao' n' c' w' g0 g1 g2 g3; have HRR : Hid (IwRet p B (Ws.put (xs, o) ys) w (.returned (.tuple #[])) (w'.setCell ⟨p, 0, none⟩ (.slice ao' n' c'))) := HR; clear g0 g1 g2 g3 HR c0 c1 hf)
    go_end0
    exact HRR.out
set_option maxHeartbeats 1000000 in
set_option maxRecDepth 100000 in
theorem inumber_as {w : World} {p B : Nat} {s : Ws} (h : IwAt w p B s) (hB : B ≤ w.heap.size) (n : Nat) (hn : n < 9223372036854775808) (hby : ∀ c ∈ Q01.putN n, c < 256) (hlen : (Q01.putN n).length ≤ 10) :
    Calls Tryz.prog 90 #[ptr p, .int .i64 (n : Int)] w (IwRet p B (s.put (Q01.putN n)) w) := by
  have hP := Q01.put_any n w (by omega)
  have hp : p < w.heap.size := by obtain ⟨_, a, c, h1, -⟩ := h; exact h1.lt
  have HC : Hid (∀ (W : World) (g : Nat), Below w.heap.size w W → W.ownsRow w.heap.size 5 1 (.slice (some ⟨g, 0, none⟩) (Q01.putN n).length (Q01.putN n).length) (Q01.putN n).length (nums (Q01.putN n)) → Calls Tryz.prog 122 #[ptr p, .slice (some ⟨g, 0, none⟩) (Q01.putN n).length (Q01.putN n).length] W (IwRet p B (s.put (Q01.putN n)) w)) := by
    intro W g hb hr
    have hg : w.heap.size ≤ g := by
      rcases hr.2 with ⟨h', _⟩ | ⟨g', cap', cur, h', hb', _⟩
      · cases h'
      · cases h'; exact hb'
    refine (iput_as (h.below hb) (Nat.le_trans hB hb.size) (some ⟨g, 0, none⟩) _ _ (Q01.putN n) (lies_row rfl hr hby (by omega)) rfl (fun e => by cases e) (by omega) (fun _ b off e => by cases e; omega)).mono ?_
    rintro e w' ⟨h1, h2, h3⟩
    exact ⟨h1, h2, (IwFr.of hb).trans h3⟩
  generalize Q01.putN n = P at *
  have hcv : IntKind.u64.wrap (n : Int) = (n : Int) := by rw [IntKind.wrap_u64]; omega
  clear hby h hB hp
  obtain ⟨N, hN⟩ : ∃ N : Int, (n : Int) = N := ⟨_, rfl⟩
  have hN0 : 0 ≤ N := by omega
  have hN1 : N < 9223372036854775808 := by omega
  rw [hN] at hP hcv ⊢
  clear hN hn
  generalize P.length = PL at *
  go_enter Tryz.func90, Tryz.ntmps90
  go_wp2_with fail
  refine hP.mono ?_
  rintro e w1 ⟨g, rfl, hr, hb⟩
  clear hP
  go_wp2_with fail
  refine Calls.mono (HC.out w1 g hb hr) ?_
  rintro e w2 ⟨rfl, q⟩
  clear hr hb HC
  go_wp2
  go_end0
  exact ⟨rfl, q⟩
end Go.Proofs.YtmmbdpdpkkikjaaGreat
namespace Go.Proofs.YtmmbdpdpkkikjaaGreat
open Go.RowKit
set_option linter.unusedVariables false

/-- What a writer has written, as far as it has room. -/
def Ws.Is (s : Ws) (ys : List Nat) : Prop := s.2 = decide (room < ys.length) ∧ (s.2 = false → s.1 = ys)
theorem Ws.Is.put {s : Ws} {ys : List Nat} (h : s.Is ys) (zs : List Nat) : (s.put zs).Is (ys ++ zs) := by
  obtain ⟨xs, o⟩ := s
  obtain ⟨h1, h2⟩ := h
  simp only at h1 h2
  unfold Ws.put Ws.Is
  simp only
  cases o with
  | true =>
    rw [if_pos rfl]
    have hr : room < ys.length := of_decide_eq_true h1.symm
    exact ⟨(decide_eq_true (by rw [List.length_append]; omega)).symm, fun q => by cases q⟩
  | false =>
    rw [if_neg (by simp)]
    obtain rfl := h2 rfl
    by_cases hr : room < xs.length + zs.length
    · rw [if_pos hr]
      exact ⟨(decide_eq_true (by rw [List.length_append]; exact hr)).symm, fun q => by cases q⟩
    · rw [if_neg hr]
      exact ⟨(decide_eq_false (by rw [List.length_append]; exact hr)).symm, fun _ => rfl⟩
def IwIs (w : World) (p B : Nat) (ys : List Nat) : Prop := ∃ s : Ws, IwAt w p B s ∧ s.Is ys
def IwRt (p B : Nat) (ys : List Nat) (w : World) (e : Ending) (w' : World) : Prop := e = .returned (.tuple #[]) ∧ IwIs w' p B ys ∧ IwFr p B w w'
theorem IwIs.below {w w' : World} {p B : Nat} {ys : List Nat} (h : IwIs w p B ys) (hb : Below w.heap.size w w') : IwIs w' p B ys := by
  obtain ⟨s, h1, h2⟩ := h
  exact ⟨s, h1.below hb, h2⟩
theorem IwIs.lt {w : World} {p B : Nat} {ys : List Nat} (h : IwIs w p B ys) : p < w.heap.size := by
  obtain ⟨s, ⟨_, a, c, h1, -⟩, -⟩ := h
  exact h1.lt
theorem num_is {w : World} {p B : Nat} {ys : List Nat} (h : IwIs w p B ys) (hB : B ≤ w.heap.size) (n : Nat) (hn : n < 9223372036854775808) :
    Calls Tryz.prog 90 #[ptr p, .int .i64 (n : Int)] w (IwRt p B (ys ++ Q01.putN n) w) := by
  obtain ⟨s, h1, h2⟩ := h
  refine (inumber_as h1 hB n hn (Q01.putN_byte n) (Q01.plen_ten (by omega))).mono ?_
  rintro e w' ⟨rfl, q1, q2⟩
  exact ⟨rfl, ⟨_, q1, h2.put _⟩, q2⟩
theorem nu_is {w : World} {p B : Nat} {ys : List Nat} (h : IwIs w p B ys) (hB : B ≤ w.heap.size) (n : Int) (h0 : 0 ≤ n) (hn : n ≤ 9223372036854775807) :
    Calls Tryz.prog 90 #[ptr p, .int .i64 n] w (IwRt p B (ys ++ nuB n) w) := by
  have := num_is h hB n.toNat (by omega)
  rw [Int.toNat_of_nonneg h0] at this
  exact this
theorem put_is {w : World} {p B : Nat} {ys : List Nat} (h : IwIs w p B ys) (hB : B ≤ w.heap.size) (ao : Option Addr) (m c : Nat) (zs : List Nat) (hl : Lies w ao zs) (hm : m = zs.length) (hno : ao = none → c = 0) (hmx : m ≤ 140737488355328) (hap : zs ≠ [] → ∀ b off, ao = some ⟨b, off, none⟩ → ¬ b = p) :
    Calls Tryz.prog 122 #[ptr p, .slice ao m c] w (IwRt p B (ys ++ zs) w) := by
  obtain ⟨s, h1, h2⟩ := h
  refine (iput_as h1 hB ao m c zs hl hm hno hmx hap).mono ?_
  rintro e w' ⟨rfl, q1, q2⟩
  exact ⟨rfl, ⟨_, q1, h2.put _⟩, q2⟩
theorem owns_B {w : World} {B n : Nat} {v : Value} {xs : List Value} (h : Rw w 5 1 v n xs) (hn : ∀ b, v.ownBlock = some b → B ≤ b) : w.ownsRow B 5 1 v n xs := by
  refine ⟨h.1, ?_⟩
  rcases h.2 with q | ⟨g, cap, cur, rfl, h1, h2⟩
  · exact .inl q
  · exact .inr ⟨g, cap, cur, rfl, hn g rfl, h2⟩
theorem owns_B' {w : World} {B n : Nat} {v : Value} {xs : List Value} (h : w.ownsRow B 5 1 v n xs) : Rw w 5 1 v n xs ∧ ∀ b, v.ownBlock = some b → B ≤ b := by
  refine ⟨⟨h.1, ?_⟩, fun b e => (World.ownsRow.lt h b e).1⟩
  rcases h.2 with q | ⟨g, cap, cur, rfl, h1, h2⟩
  · exact .inl q
  · exact .inr ⟨g, cap, cur, rfl, Nat.zero_le _, h2⟩
theorem str_cells (s : ByteArray) : Lib.strCells s = nums (byS s) := by unfold nums byS Lib.strCells; rw [List.map_map]; rfl
set_option maxHeartbeats 2000000 in
set_option maxRecDepth 100000 in
theorem text_is {w : World} {p B : Nat} {ys : List Nat} (h : IwIs w p B ys) (hB : B ≤ w.heap.size) (s : ByteArray) (hs : s.size ≤ 65536) :
    Calls Tryz.prog 92 #[ptr p, .string s] w (IwRt p B (ys ++ txB s) w) := by
  have hN := num_is h hB s.size (by omega)
  have HS : Hid (s.size ≤ 65536) := hs
  have HTX : Hid (ys ++ txB s = (ys ++ Q01.putN s.size) ++ byS s) := by unfold Hid txB; rw [List.append_assoc]
  rw [HTX.out]
  clear hs h
  generalize ys ++ Q01.putN s.size = zs at *
  go_enter Tryz.func92, Tryz.ntmps92
  go_wp2_with fail
  refine hN.mono ?_
  rintro e w1 ⟨rfl, ⟨⟨xs, o⟩, ⟨h0, a0, cp, h1, h2, h3⟩, his⟩, hf⟩
  simp only at h0 h1 h2 h3
  have h0 : xs.length ≤ 2097140 := h0
  have hne := h2.ne h1 (by decide)
  have hB1 : B ≤ w1.heap.size := Nat.le_trans hB hf.fr.size
  have hC := ihas_as h1 h0 s.size (by have := HS.out; omega)
  obtain ⟨O, HO⟩ : ∃ O, Hid ((o || decide (2097140 < xs.length + s.size)) = O) := ⟨_, rfl⟩
  rw [HO.out] at hC
  have o1 : Own (w1.setCell ⟨p, 1, none⟩ (.bool O)) p #[.slice a0 xs.length cp, .bool O] 88 := by simpa using h1.set 1 (.bool O)
  have r1 := h2.set hne 1 (.bool O)
  have f1 : IwFr p B w (w1.setCell ⟨p, 1, none⟩ (.bool O)) := hf.set 1 _
  have hs1 : (w1.setCell ⟨p, 1, none⟩ (.bool O)).heap.size = w1.heap.size := by simp
  have HIS : Hid ((Ws.put (xs, o) (byS s)).Is (zs ++ byS s)) := his.put _
  have HLN : Hid ((byS s).length = s.size) := byS_length s
  cases O with
  | true =>
    have HR : Hid (IwRt p B (zs ++ byS s) w (.returned (.tuple #[])) (w1.setCell ⟨p, 1, none⟩ (.bool true))) := by
      have e : Ws.put (xs, o) (byS s) = (xs, true) := by
        unfold Ws.put
        simp only
        cases o with
        | true => rfl
        | false =>
          have := HO.out
          rw [Bool.false_or, decide_eq_true_eq] at this
          rw [if_neg (by simp), if_pos (show room < xs.length + (byS s).length by rw [HLN.out]; exact this)]
      have q := HIS.out
      rw [e] at q
      exact ⟨rfl, ⟨(xs, true), ⟨h0, a0, cp, o1, r1, h3⟩, q⟩, f1⟩
    clear h1 h2 h3 o1 r1 hf f1 HO h0 hs1 hB hB1 his hN
    go_wp2_with fail
    refine hC.mono ?_
    rintro e w2 ⟨rfl, rfl⟩
    go_wp2
    go_end0
    exact HR.out
  | false =>
    have ho : o = false ∧ ¬ 2097140 < xs.length + s.size := by
      have := HO.out
      cases o <;> simp_all
    obtain ⟨c0, c1, hf'⟩ := own2 o1
    have HZ : Hid (∀ v' w', w'.ownsRow B 5 1 v' (xs.length + s.size) (nums xs ++ Lib.strCells s) → (w1.setCell ⟨p, 1, none⟩ (.bool false)).grownBy w' (Value.slice a0 xs.length cp).ownBlock →
        ∃ ao' n' c', v' = .slice ao' n' c' ∧ (w'.cell? ⟨p, 0, none⟩ = some (.slice a0 xs.length cp) ∧ w'.cell? ⟨p, 1, none⟩ = some (.bool false) ∧ (∀ j, w'.frozen? ⟨p, j, none⟩ = false)) ∧ IwRt p B (zs ++ byS s) w (.returned (.tuple #[])) (w'.setCell ⟨p, 0, none⟩ (.slice ao' n' c'))) := by
      intro v' w' g1 g2
      obtain ⟨q1, q2⟩ := owns_B' g1
      have o2 := o1.grown g2 (fun e => r1.ne o1 (by decide) (by rw [← e]))
      have e : Ws.put (xs, o) (byS s) = (xs ++ byS s, false) := by
        unfold Ws.put
        simp only
        rw [ho.1, if_neg (by simp), if_neg (by rw [HLN.out]; exact ho.2)]
      have hlen : (xs ++ byS s).length = xs.length + s.size := by rw [List.length_append, HLN.out]
      rw [str_cells, ← nums_append, ← hlen] at q1
      have hne2 := q1.ne o2 (by decide)
      obtain ⟨ao', c', rfl, -⟩ := q1.shape
      have q := HIS.out
      rw [e] at q
      refine ⟨_, _, _, rfl, own2 o2, rfl, ⟨(xs ++ byS s, false), ⟨by rw [hlen]; show _ ≤ 2097140; omega, ao', c', by simpa using o2.set 0 (.slice ao' (xs ++ byS s).length c'), q1.set hne2 0 _, q2⟩, q⟩, f1.trans ⟨?_, ?_⟩⟩
      · exact ((Fr.refl (fun b => b = p ∨ B ≤ b) _).grown g2 (fun k _ e => .inr (h3 k e))).set (g := p) (.inr (.inl rfl)) 0 _
      · exact fun g cs t k1 k2 k3 => (k1.grown g2 (fun e => r1.ne k1 (Ne.symm k2) e.symm)).other (i := 0) k3 _
    have HRW : Hid ((w1.setCell ⟨p, 1, none⟩ (.bool false)).ownsRow B 5 1 (.slice a0 xs.length cp) xs.length (nums xs)) := owns_B r1 h3
    have HSM : Hid (xs.length + s.size ≤ maxLen ∧ xs.length + s.size ≤ 140737488355328 ∧ B ≤ (w1.setCell ⟨p, 1, none⟩ (.bool false)).heap.size) := ⟨by have := HS.out; unfold maxLen; omega, by have := HS.out; omega, by rw [hs1]; exact hB1⟩
    obtain ⟨i0, hi, hz0, hz1, hz2⟩ := info_parts info8
    clear h1 h2 h3 hf f1 HO ho h0 hs1 hB hB1 his hN r1 o1
    go_wp2_with fail
    refine hC.mono ?_
    rintro e w2 ⟨rfl, rfl⟩
    clear hC
    go_wp2_with (at_builtin; refine Lib.wpList_append_own_string _ rfl _ _ 29 9 rfl B 5 i0 Tryz.underlying29 Tryz.underlying9 hi hz0 hz1 hz2 _ _ _ rfl HRW.out s rfl HSM.out.1 HSM.out.2.1 HSM.out.2.2 ?_)
    intro v' w' g1 g2 _
    obtain ⟨ao', n', c', rfl, ⟨d0, d1, df⟩, HR⟩ := HZ.out v' w' g1 g2
    have HRR : Hid (IwRt p B (zs ++ byS s) w (.returned (.tuple #[])) (w'.setCell ⟨p, 0, none⟩ (.slice ao' n' c'))) := HR
    clear g1 g2 HR c0 c1 hf' HZ HRW
    go_wp2
    go_end0
    exact HRR.out
end Go.Proofs.YtmmbdpdpkkikjaaGreat
namespace Go.Proofs.YtmmbdpdpkkikjaaGreat
open Go.RowKit
set_option linter.unusedVariables false

/-- All blocks of an elder world stand. -/
def KB (w0 W : World) : Prop := w0.heap.size ≤ W.heap.size ∧ ∀ k, k < w0.heap.size → W.heap[k]? = w0.heap[k]?
theorem KB.below {w0 w w' : World} (h : KB w0 w) (hb : Below w.heap.size w w') : KB w0 w' := ⟨Nat.le_trans h.1 hb.size, fun k hk => (hb.block k (Nat.lt_of_lt_of_le hk h.1)).trans (h.2 k hk)⟩
theorem KB.iw {w0 w w' : World} {p : Nat} (h : KB w0 w) (hp : w0.heap.size ≤ p) (hf : IwFr p w0.heap.size w w') : KB w0 w' := ⟨Nat.le_trans h.1 hf.fr.size, fun k hk => (hf.fr.block k (Nat.lt_of_lt_of_le hk h.1) (by omega)).trans (h.2 k hk)⟩
theorem KB.cell {w0 W : World} (h : KB w0 W) {b j : Nat} {v : Value} (hc : w0.cell? ⟨b, j, none⟩ = some v) : W.cell? ⟨b, j, none⟩ = some v := by
  have hlt := World.block_lt_of_cell? w0 _ hc
  have hb := h.2 b hlt
  rw [← hc]
  unfold World.cell?
  simp only [hb]
theorem RowAt.kb {w0 W : World} {a : Option Addr} {sz n : Nat} {f : Nat → Nat → Value} (h : RowAt w0 a sz n f) (hk : KB w0 W) : RowAt W a sz n f := by
  rcases h with h0 | ⟨b, off, rfl, hc⟩
  · exact .inl h0
  · exact .inr ⟨b, off, rfl, fun i hi d hd => hk.cell (hc i hi d hd)⟩
theorem Lies.kb {w0 W : World} {a : Option Addr} {xs : List Nat} (h : Lies w0 a xs) (hk : KB w0 W) : Lies W a xs := by
  refine ⟨h.1, h.2.1, ?_⟩
  rcases h.2.2 with h0 | ⟨b, off, rfl, hc⟩
  · exact .inl h0
  · exact .inr ⟨b, off, rfl, fun i hi => hk.cell (hc i hi)⟩
theorem take_flat {α β : Type} (u : α → List β) (z : α) (xs : List α) (k : Nat) (h : k < xs.length) : ((xs.take (k + 1)).map u).flatten = ((xs.take k).map u).flatten ++ u (xs.getD k z) := by
  rw [List.take_succ_eq_append_getElem h, List.map_append, List.flatten_append]
  simp [List.getD, h]
set_option maxHeartbeats 2000000 in
set_option maxRecDepth 100000 in
theorem numbers_is {w0 w : World} (hk : KB w0 w) {p : Nat} {ys : List Nat} (hp : w0.heap.size ≤ p) (h : IwIs w p w0.heap.size ys) {a : Option Addr} {n c : Nat} {xs : List Int} (hr : RowAt w0 a 1 xs.length (inF xs)) (hn : n = xs.length) (hm : n ≤ 100000) (hx : ∀ y ∈ xs, 0 ≤ y ∧ y ≤ 9223372036854775807) :
    Calls Tryz.prog 126 #[ptr p, .slice a n c] w (IwRt p w0.heap.size (ys ++ liB nuB xs) w) := by
  have hN := num_is h hk.1 n (by omega)
  have HK : Hid (∀ W, IwFr p w0.heap.size w W → KB w0 W) := fun W hf => hk.iw hp hf
  have HR : Hid (∀ W, KB w0 W → RowAt W a 1 xs.length (inF xs)) := fun W hb => hr.kb hb
  have HX : Hid (∀ y ∈ xs, 0 ≤ y ∧ y ≤ 9223372036854775807) := hx
  have HN : Hid (n = xs.length) := hn
  have HM : Hid (n ≤ 100000) := hm
  have HE : Hid (ys ++ liB nuB xs = (ys ++ Q01.putN n) ++ (xs.map nuB).flatten) := by unfold Hid liB; rw [hn, List.append_assoc]
  have HP : Hid (w0.heap.size ≤ p) := hp
  rw [HE.out]
  generalize ys ++ Q01.putN n = zs at *
  generalize w0.heap.size = B at *
  clear hk hp h hr hn hm hx HE
  go_enter Tryz.func126, Tryz.ntmps126
  go_wp2_with fail
  refine hN.mono ?_
  rintro e w1 ⟨rfl, h1, f1⟩
  clear hN
  have REL : Hid (IwIs w1 p B (zs ++ (([] : List Int).map nuB).flatten) ∧ IwFr p B w w1) := ⟨by simpa using h1, f1⟩
  clear h1 f1
  go_wp2_with fail
  go_loopw [12] (fun i wr => ∃ k : Nat, k ≤ n ∧ i = .int .i64 (k : Int) ∧ IwIs wr p B (zs ++ ((xs.take k).map nuB).flatten) ∧ IwFr p B w wr) (fun i _ => n - (intOf i).toNat)
  case atStart => exact ⟨0, Nat.zero_le _, rfl, REL.out⟩
  case round =>
    clear REL
    obtain ⟨k, hkn, rfl, hi, hf⟩ := hrel
    by_cases hlt : k < n
    · have hka : k < xs.length := by rw [← HN.out]; exact hlt
      have hkb := HK.out _ hf
      obtain ⟨b, off, rfl, hc⟩ := (HR.out _ hkb).at hka
      have d0 : wr.cell? ⟨b, off + k, none⟩ = some (.int .i64 (xs.getD k 0)) := by have := hc 0 (by omega); rw [Nat.mul_one] at this; exact this
      have hN := HX.out _ (getD_in (z := 0) hka)
      have HT : Hid (((xs.take (k + 1)).map nuB).flatten = ((xs.take k).map nuB).flatten ++ nuB (xs.getD k 0)) := take_flat nuB 0 xs k hka
      obtain ⟨V, hV⟩ : ∃ V, xs.getD k 0 = V := ⟨_, rfl⟩
      rw [hV] at d0 hN HT
      have hB : B ≤ wr.heap.size := by have := hi.lt; have := HP.out; omega
      have hC := nu_is hi hB V hN.1 hN.2
      clear hc hV hN hi hkb hB
      go_wp2_with fail
      refine hC.mono ?_
      rintro e w2 ⟨rfl, h2, f2⟩
      rw [List.append_assoc, ← HT.out] at h2
      have f3 := hf.trans f2
      have hkk : k ≤ 100000 := by have := HM.out; omega
      clear hC d0 hf f2
      go_wp2
      go_roundw
      case rel => exact ⟨k + 1, hlt, by go_num, h2, f3⟩
      case measure => simp [intOf]; omega
    · have e : xs.take k = xs := List.take_of_length_le (by have := HN.out; omega)
      rw [e] at hi
      go_wp2
      go_end0
      exact ⟨rfl, hi, hf⟩
set_option maxHeartbeats 2000000 in
set_option maxRecDepth 100000 in
theorem fields_is {w0 w : World} (hk : KB w0 w) {p : Nat} {ys : List Nat} (hp : w0.heap.size ≤ p) (h : IwIs w p w0.heap.size ys) {a : Option Addr} {n c : Nat} {xs : List Fl} (hr : RowAt w0 a 2 xs.length (flF xs)) (hn : n = xs.length) (hm : n ≤ 100000) (hx : ∀ y ∈ xs, y.name.size ≤ 65536 ∧ 0 ≤ y.typ ∧ y.typ ≤ 9223372036854775807) :
    Calls Tryz.prog 124 #[ptr p, .slice a n c] w (IwRt p w0.heap.size (ys ++ liB flB xs) w) := by
  have hN := num_is h hk.1 n (by omega)
  have HK : Hid (∀ W, IwFr p w0.heap.size w W → KB w0 W) := fun W hf => hk.iw hp hf
  have HR : Hid (∀ W, KB w0 W → RowAt W a 2 xs.length (flF xs)) := fun W hb => hr.kb hb
  have HX : Hid (∀ y ∈ xs, y.name.size ≤ 65536 ∧ 0 ≤ y.typ ∧ y.typ ≤ 9223372036854775807) := hx
  have HN : Hid (n = xs.length) := hn
  have HM : Hid (n ≤ 100000) := hm
  have HE : Hid (ys ++ liB flB xs = (ys ++ Q01.putN n) ++ (xs.map flB).flatten) := by unfold Hid liB; rw [hn, List.append_assoc]
  have HP : Hid (w0.heap.size ≤ p) := hp
  rw [HE.out]
  generalize ys ++ Q01.putN n = zs at *
  generalize w0.heap.size = B at *
  clear hk hp h hr hn hm hx HE
  go_enter Tryz.func124, Tryz.ntmps124
  go_wp2_with fail
  refine hN.mono ?_
  rintro e w1 ⟨rfl, h1, f1⟩
  clear hN
  have REL : Hid (IwIs w1 p B (zs ++ (([] : List Fl).map flB).flatten) ∧ IwFr p B w w1) := ⟨by simpa using h1, f1⟩
  clear h1 f1
  go_wp2_with fail
  go_loopw [12] (fun i wr => ∃ k : Nat, k ≤ n ∧ i = .int .i64 (k : Int) ∧ IwIs wr p B (zs ++ ((xs.take k).map flB).flatten) ∧ IwFr p B w wr) (fun i _ => n - (intOf i).toNat)
  case atStart => exact ⟨0, Nat.zero_le _, rfl, REL.out⟩
  case round =>
    clear REL
    obtain ⟨k, hkn, rfl, hi, hf⟩ := hrel
    by_cases hlt : k < n
    · have hka : k < xs.length := by rw [← HN.out]; exact hlt
      obtain ⟨f, HV⟩ : ∃ f, Hid (xs.getD k zFl = f) := ⟨_, rfl⟩
      obtain ⟨b, off, rfl, c0, c1⟩ := flCells (HR.out _ (HK.out _ hf)) hka f HV.out
      have hN : f.name.size ≤ 65536 ∧ 0 ≤ f.typ ∧ f.typ ≤ 9223372036854775807 := by rw [← HV.out]; exact HX.out _ (getD_in hka)
      have HT : Hid (((xs.take (k + 1)).map flB).flatten = ((xs.take k).map flB).flatten ++ flB f) := by rw [Hid, take_flat flB zFl xs k hka, HV.out]
      obtain ⟨nm, ty⟩ := f
      simp only at c0 c1 hN
      have hB : B ≤ wr.heap.size := by have := hi.lt; have := HP.out; omega
      have oF := Own.new wr #[.string nm, .int .i64 ty] 51
      have bF := new_below wr (.cells #[.string nm, .int .i64 ty] 51)
      have hi5 := hi.below bF
      have f5 : IwFr p B w (wr.alloc (.cells #[.string nm, .int .i64 ty] 51)) := hf.trans (IwFr.of bF)
      have hgp : wr.heap.size ≠ p := by have := hi.lt; omega
      have hB5 := Nat.le_trans hB bF.size
      clear hi hf bF hB
      go_upto_region 4 with fail
      clear c0 c1
      generalize wr.alloc (.cells #[.string nm, .int .i64 ty] 51) = w5 at *
      generalize wr.heap.size = g at *
      obtain ⟨y0, y1, yf⟩ := own2 oF
      have hC := text_is hi5 hB5 nm hN.1
      clear hi5
      go_wp2_with fail
      refine hC.mono ?_
      rintro e w6 ⟨rfl, h6, f6⟩
      have oF6 := f6.typ g _ _ oF (by decide) hgp
      have f7 := f5.trans f6
      have hB6 := Nat.le_trans hB5 f6.fr.size
      clear hC y0 y1 yf f5 f6 hB5 oF
      obtain ⟨y0, y1, yf⟩ := own2 oF6
      have hC := nu_is h6 hB6 ty hN.2.1 hN.2.2
      clear h6
      go_wp2_with fail
      refine hC.mono ?_
      rintro e w7 ⟨rfl, h7, f8⟩
      have f9 := f7.trans f8
      have h8 : IwIs w7 p B (zs ++ ((xs.take (k + 1)).map flB).flatten) := by
        rw [HT.out]
        unfold flB at h7 ⊢
        simpa [List.append_assoc] using h7
      have hkk : k ≤ 100000 := by have := HM.out; omega
      clear hC h7 y0 y1 yf f7 f8 oF6 hN hB6
      go_wp2
      go_roundw
      case rel => exact ⟨k + 1, hlt, by go_num, h8, f9⟩
      case measure => simp [intOf]; omega
    · have e : xs.take k = xs := List.take_of_length_le (by have := HN.out; omega)
      rw [e] at hi
      go_wp2
      go_end0
      exact ⟨rfl, hi, hf⟩
end Go.Proofs.YtmmbdpdpkkikjaaGreat
namespace Go.Proofs.YtmmbdpdpkkikjaaGreat
open Go.RowKit
set_option linter.unusedVariables false

theorem new_byte (w : World) (k : Nat) (hk : k < 256) : Lies (w.alloc (.cells #[.int .u8 (k : Int)] 5)) (some ⟨w.heap.size, 0, none⟩) [k] := by
  have o := Own.new w #[.int .u8 (k : Int)] 5
  refine ⟨by simpa using hk, by simp, .inr ⟨w.heap.size, 0, rfl, fun i hi => ?_⟩⟩
  simp only [List.length_cons, List.length_nil] at hi
  obtain rfl : i = 0 := by omega
  exact o.cell 0
set_option maxHeartbeats 2000000 in
set_option maxRecDepth 100000 in
theorem typ_is {w0 w : World} (hk : KB w0 w) {p : Nat} {ys : List Nat} (hp : w0.heap.size ≤ p) (h : IwIs w p w0.heap.size ys) {t : TyP} (ht : TyIn w0 t) (hm : t.t.fields.length ≤ 100000) (hok : TyOk t.t) :
    Calls Tryz.prog 91 #[ptr p, .agg (tyA t)] w (IwRt p w0.heap.size (ys ++ tyB t.t) w) := by
  have hB := hk.1
  have HP : Hid (w0.heap.size ≤ p) := hp
  have HK : Hid (∀ W, IwFr p w0.heap.size w W → KB w0 W) := fun W hf => hk.iw hp hf
  have HFL : Hid (∀ W ys, IwFr p w0.heap.size w W → IwIs W p w0.heap.size ys → (∀ y ∈ t.t.fields, y.name.size ≤ 65536 ∧ 0 ≤ y.typ ∧ y.typ ≤ 9223372036854775807) → Calls Tryz.prog 124 #[ptr p, .slice t.fa t.t.fields.length t.fc] W (IwRt p w0.heap.size (ys ++ liB flB t.t.fields) W)) := fun W ys hf hi hx => fields_is (hk.iw hp hf) hp hi ht.row rfl hm hx
  have HKD : Hid (t.t.kind < 256) := ht.kind
  have oT := Own.new w (tyA t) 49
  have bT := new_below w (.cells (tyA t) 49)
  have h1 := h.below bT
  have f1 : IwFr p w0.heap.size w (w.alloc (.cells (tyA t) 49)) := IwFr.of bT
  have hgp : w.heap.size ≠ p := by have := h.lt; omega
  have hB1 := Nat.le_trans hB bT.size
  unfold tyA at *
  generalize w0.heap.size = B at *
  clear hk hp h bT hB ht hm
  go_enter Tryz.func91, Tryz.ntmps91
  go_upto_region 1 with fail
  generalize w.alloc (.cells #[.int .u8 (t.t.kind : Int), .string t.t.name, .slice t.fa t.t.fields.length t.fc, .int .i64 t.t.elem, .int .i64 t.t.len] 49) = w1 at *
  generalize w.heap.size = g at *
  obtain ⟨x0, x1, x2, x3, x4, xf⟩ := own5' oT
  have hl := new_byte w1 t.t.kind HKD.out
  have bK := new_below w1 (.cells #[.int .u8 (t.t.kind : Int)] 5)
  have hC := put_is (h1.below bK) (Nat.le_trans hB1 bK.size) (some ⟨w1.heap.size, 0, none⟩) 1 1 [t.t.kind] hl rfl (fun e => by cases e) (by omega) (fun _ b off e => by cases e; have := h1.lt; omega)
  have oK := oT.below bK
  have f2 := f1.trans (IwFr.of bK)
  have hB2 := Nat.le_trans hB1 bK.size
  clear h1 oT f1 hB1 bK hl
  go_wp2_with fail
  refine hC.mono ?_
  rintro e w3 ⟨rfl, h3, f3⟩
  have oT := f3.typ g _ _ oK (by decide) hgp
  have f4 := f2.trans f3
  have hB3 := Nat.le_trans hB2 f3.fr.size
  clear hC x0 x1 x2 x3 x4 xf oK f2 f3 hB2
  obtain ⟨x0, x1, x2, x3, x4, xf⟩ := own5' oT
  rcases hok with ⟨k1, k2, k3, k4, k5, k6⟩ | ⟨k1, k2, k3, k4, k5⟩ | ⟨k1, k2, k3, k4, k5⟩
  · have HE : Hid (ys ++ tyB t.t = ((ys ++ [t.t.kind]) ++ txB t.t.name) ++ liB flB t.t.fields) := by
      unfold Hid tyB; rw [if_pos k1]; simp
    have kk : ((t.t.kind : Nat) : Int) = 6 := by omega
    rw [kk] at x0
    have hC := text_is h3 hB3 t.t.name k2
    clear k1 k5 k6 h3
    go_wp2_with fail
    refine hC.mono ?_
    rintro e w5 ⟨rfl, h5, f5⟩
    have oT5 := f5.typ g _ _ oT (by decide) hgp
    have f6 := f4.trans f5
    clear hC x0 x1 x2 x3 x4 xf oT f4 f5 hB3 kk
    obtain ⟨x0, x1, x2, x3, x4, xf⟩ := own5' oT5
    have hC := HFL.out w5 _ f6 h5 (fun y hy => ⟨(k4 y hy).1, (k4 y hy).2.1, by have := (k4 y hy).2.2; omega⟩)
    clear h5 k4 k3 k2
    go_wp2_with fail
    refine hC.mono ?_
    rintro e w7 ⟨rfl, h7, f7⟩
    clear hC x0 x1 x2 x3 x4 xf
    go_wp2
    go_end0
    exact ⟨rfl, by rw [HE.out]; exact h7, f6.trans f7⟩
  · have HE : Hid (ys ++ tyB t.t = ((ys ++ [t.t.kind]) ++ nuB t.t.elem) ++ nuB t.t.len) := by
      unfold Hid tyB; rw [if_neg (by omega), if_pos k1]; simp
    have kk : ((t.t.kind : Nat) : Int) = 7 := by omega
    rw [kk] at x0
    have hC := nu_is h3 hB3 t.t.elem k4.1 (by have := k4.2; omega)
    clear k1 k2 k3 h3
    go_wp2_with fail
    refine hC.mono ?_
    rintro e w5 ⟨rfl, h5, f5⟩
    have oT5 := f5.typ g _ _ oT (by decide) hgp
    have f6 := f4.trans f5
    have hB5 := Nat.le_trans hB3 f5.fr.size
    clear hC x0 x1 x2 x3 x4 xf oT f4 f5 hB3 kk
    obtain ⟨x0, x1, x2, x3, x4, xf⟩ := own5' oT5
    have hC := nu_is h5 hB5 t.t.len k5.1 (by have := k5.2; omega)
    clear h5 k4 k5
    go_wp2_with fail
    refine hC.mono ?_
    rintro e w7 ⟨rfl, h7, f7⟩
    clear hC x0 x1 x2 x3 x4 xf
    go_wp2
    go_end0
    exact ⟨rfl, by rw [HE.out]; exact h7, f6.trans f7⟩
  · have HE : Hid (ys ++ tyB t.t = (ys ++ [t.t.kind]) ++ nuB t.t.elem) := by
      unfold Hid tyB; rw [if_neg (by omega), if_neg (by omega), if_pos k1]; simp
    have kk : ((t.t.kind : Nat) : Int) = 8 := by omega
    rw [kk] at x0
    have hC := nu_is h3 hB3 t.t.elem k4.1 (by have := k4.2; omega)
    clear k1 k2 k3 h3 k4 k5
    go_wp2_with fail
    refine hC.mono ?_
    rintro e w5 ⟨rfl, h5, f5⟩
    clear hC x0 x1 x2 x3 x4 xf kk
    go_wp2
    go_end0
    exact ⟨rfl, by rw [HE.out]; exact h5, f4.trans f5⟩
set_option maxHeartbeats 2000000 in
set_option maxRecDepth 100000 in
theorem routine_is {w0 w : World} (hk : KB w0 w) {p : Nat} {ys : List Nat} (hp : w0.heap.size ≤ p) (h : IwIs w p w0.heap.size ys) {r : RoP} (hr : RoIn w0 r) (hm : r.r.params.length ≤ 100000 ∧ r.r.results.length ≤ 100000 ∧ r.r.code.length ≤ 100000) (hok : RoOk r.r) :
    Calls Tryz.prog 93 #[ptr p, .agg (roA r)] w (IwRt p w0.heap.size (ys ++ roB r.r) w) := by
  have hB := hk.1
  have HN1 : Hid (∀ W ys, IwFr p w0.heap.size w W → IwIs W p w0.heap.size ys → Calls Tryz.prog 126 #[ptr p, .slice r.pa r.r.params.length r.pc] W (IwRt p w0.heap.size (ys ++ liB nuB r.r.params) W)) := fun W ys hf hi => numbers_is (hk.iw hp hf) hp hi hr.params rfl hm.1 (fun y hy => ⟨(hok.2.2.1 y hy).1, by have := (hok.2.2.1 y hy).2; omega⟩)
  have HN2 : Hid (∀ W ys, IwFr p w0.heap.size w W → IwIs W p w0.heap.size ys → Calls Tryz.prog 126 #[ptr p, .slice r.ra r.r.results.length r.rc] W (IwRt p w0.heap.size (ys ++ liB nuB r.r.results) W)) := fun W ys hf hi => numbers_is (hk.iw hp hf) hp hi hr.results rfl hm.2.1 (fun y hy => ⟨(hok.2.2.2.2.1 y hy).1, by have := (hok.2.2.2.2.1 y hy).2; omega⟩)
  have HCD : Hid (∀ W ys, IwFr p w0.heap.size w W → IwIs W p w0.heap.size ys → Calls Tryz.prog 122 #[ptr p, .slice r.ca r.r.code.length r.cc] W (IwRt p w0.heap.size (ys ++ r.r.code) W)) := fun W ys hf hi => by
    have hkb := hk.iw hp hf
    refine put_is hi hkb.1 r.ca _ r.cc r.r.code (hr.code.kb hkb) rfl hr.cno (by have := hm.2.2; omega) (fun hne b off e => ?_)
    rcases hr.code.2.2 with h0 | ⟨b', off', e', hc⟩
    · exact absurd h0 hne
    · rw [e] at e'
      cases e'
      have := World.block_lt_of_cell? w0 _ (hc 0 (List.length_pos_iff.2 hne))
      have h2 : b < w0.heap.size := this
      omega
  have oT := Own.new w (roA r) 55
  have bT := new_below w (.cells (roA r) 55)
  have h1 := h.below bT
  have f1 : IwFr p w0.heap.size w (w.alloc (.cells (roA r) 55)) := IwFr.of bT
  have hgp : w.heap.size ≠ p := by have := h.lt; omega
  have hB1 := Nat.le_trans hB bT.size
  have HLC : Hid (r.r.code.length ≤ 100000) := hm.2.2
  have HE : Hid (ys ++ roB r.r = ((((((ys ++ txB r.r.name) ++ liB nuB r.r.params) ++ liB nuB r.r.results) ++ nuB r.r.locals) ++ nuB r.r.stack) ++ Q01.putN r.r.code.length) ++ r.r.code) := by
    unfold Hid roB; simp
  rw [HE.out]
  have l1 := hok.2.2.2.2.2.1
  have l2 := hok.2.2.2.2.2.2.1
  have hnm := hok.1
  unfold roA at *
  generalize w0.heap.size = B at *
  clear hk hp h bT hB hr hm hok HE
  go_enter Tryz.func93, Tryz.ntmps93
  go_upto_region 1 with fail
  generalize w.alloc (.cells #[.string r.r.name, .slice r.pa r.r.params.length r.pc, .slice r.ra r.r.results.length r.rc, .int .i64 r.r.locals, .int .i64 r.r.stack, .slice r.ca r.r.code.length r.cc] 55) = w1 at *
  generalize w.heap.size = g at *
  obtain ⟨x0, x1, x2, x3, x4, x5, xf⟩ := own6 oT
  have hC := text_is h1 hB1 r.r.name hnm
  clear h1 hnm
  go_wp2_with fail
  refine hC.mono ?_
  rintro e w2 ⟨rfl, h2, k⟩
  have oN := k.typ g _ _ oT (by decide) hgp
  have fN := f1.trans k
  have hBN := Nat.le_trans hB1 k.fr.size
  clear hC x0 x1 x2 x3 x4 x5 xf oT f1 hB1 k
  have oT := oN
  have f2 := fN
  have hB2 := hBN
  clear oN fN hBN
  obtain ⟨x0, x1, x2, x3, x4, x5, xf⟩ := own6 oT
  have hC := HN1.out w2 _ f2 h2
  clear h2
  go_wp2_with fail
  refine hC.mono ?_
  rintro e w3 ⟨rfl, h3, k⟩
  have oN := k.typ g _ _ oT (by decide) hgp
  have fN := f2.trans k
  have hBN := Nat.le_trans hB2 k.fr.size
  clear hC x0 x1 x2 x3 x4 x5 xf oT f2 hB2 k
  have oT := oN
  have f3 := fN
  have hB3 := hBN
  clear oN fN hBN
  obtain ⟨x0, x1, x2, x3, x4, x5, xf⟩ := own6 oT
  have hC := HN2.out w3 _ f3 h3
  clear h3
  go_wp2_with fail
  refine hC.mono ?_
  rintro e w4 ⟨rfl, h4, k⟩
  have oN := k.typ g _ _ oT (by decide) hgp
  have fN := f3.trans k
  have hBN := Nat.le_trans hB3 k.fr.size
  clear hC x0 x1 x2 x3 x4 x5 xf oT f3 hB3 k
  have oT := oN
  have f4 := fN
  have hB4 := hBN
  clear oN fN hBN
  obtain ⟨x0, x1, x2, x3, x4, x5, xf⟩ := own6 oT
  have hC := nu_is h4 hB4 r.r.locals l1.1 (by have := l1.2; omega)
  clear h4
  go_wp2_with fail
  refine hC.mono ?_
  rintro e w5 ⟨rfl, h5, k⟩
  have oN := k.typ g _ _ oT (by decide) hgp
  have fN := f4.trans k
  have hBN := Nat.le_trans hB4 k.fr.size
  clear hC x0 x1 x2 x3 x4 x5 xf oT f4 hB4 k
  have oT := oN
  have f5 := fN
  have hB5 := hBN
  clear oN fN hBN
  obtain ⟨x0, x1, x2, x3, x4, x5, xf⟩ := own6 oT
  have hC := nu_is h5 hB5 r.r.stack l2.1 (by have := l2.2; omega)
  clear h5
  go_wp2_with fail
  refine hC.mono ?_
  rintro e w6 ⟨rfl, h6, k⟩
  have oN := k.typ g _ _ oT (by decide) hgp
  have fN := f5.trans k
  have hBN := Nat.le_trans hB5 k.fr.size
  clear hC x0 x1 x2 x3 x4 x5 xf oT f5 hB5 k
  have oT := oN
  have f6 := fN
  have hB6 := hBN
  clear oN fN hBN
  obtain ⟨x0, x1, x2, x3, x4, x5, xf⟩ := own6 oT
  have hC := num_is h6 hB6 r.r.code.length (by have := HLC.out; omega)
  clear h6
  go_wp2_with fail
  refine hC.mono ?_
  rintro e w7 ⟨rfl, h7, k⟩
  have oN := k.typ g _ _ oT (by decide) hgp
  have fN := f6.trans k
  have hBN := Nat.le_trans hB6 k.fr.size
  clear hC x0 x1 x2 x3 x4 x5 xf oT f6 hB6 k
  have oT := oN
  have f7 := fN
  have hB7 := hBN
  clear oN fN hBN
  obtain ⟨x0, x1, x2, x3, x4, x5, xf⟩ := own6 oT
  have hC := HCD.out w7 _ f7 h7
  clear h7
  go_wp2_with fail
  refine hC.mono ?_
  rintro e w8 ⟨rfl, h8, k⟩
  have fN := f7.trans k
  clear hC x0 x1 x2 x3 x4 x5 xf
  go_wp2
  go_end0
  exact ⟨rfl, h8, fN⟩
end Go.Proofs.YtmmbdpdpkkikjaaGreat
namespace Go.Proofs.YtmmbdpdpkkikjaaGreat
open Go.RowKit
set_option linter.unusedVariables false

theorem thr_ok {n : Nat} (hn : n ≤ 256) {x : Int} (h : thr n x = true) : 1 ≤ x ∧ x ≤ 300 := by
  unfold thr at h
  split at h
  · simp at h; omega
  · have := of_decide_eq_true h; omega
theorem tyErr_ok {n : Nat} (hn : n ≤ 256) {t : Ty} (h : tyErr n t = 0) : TyOk t := by
  unfold tyErr at h
  split at h
  · rename_i hf
    split at h
    · rename_i hm
      unfold tyFit at hf
      rw [Bool.and_eq_true, Bool.and_eq_true, decide_eq_true_eq, decide_eq_true_eq, List.all_eq_true] at hf
      obtain ⟨f1, f2, f3⟩ := hf
      unfold tyMay at hm
      split at hm
      · rename_i hk
        rw [Bool.and_eq_true, Bool.and_eq_true, decide_eq_true_eq, decide_eq_true_eq, List.all_eq_true] at hm
        refine .inl ⟨hk, f2, f1, fun f hfm => ⟨of_decide_eq_true (f3 f hfm), ?_⟩, hm.1, hm.2.1⟩
        have := thr_ok hn (hm.2.2 f hfm)
        exact ⟨by omega, by omega⟩
      · split at hm
        · rename_i hk
          unfold bare at hm
          rw [Bool.and_eq_true, Bool.and_eq_true, Bool.and_eq_true, Bool.and_eq_true, decide_eq_true_eq, decide_eq_true_eq, decide_eq_true_eq, decide_eq_true_eq] at hm
          have := thr_ok hn hm.2.1
          exact .inr (.inl ⟨hk, hm.1.1, List.eq_nil_of_length_eq_zero hm.1.2, ⟨by omega, by omega⟩, ⟨by have := hm.2.2; omega, by have := hm.2.2; omega⟩⟩)
        · split at hm
          · rename_i hk
            unfold bare at hm
            rw [Bool.and_eq_true, Bool.and_eq_true, Bool.and_eq_true, decide_eq_true_eq, decide_eq_true_eq, decide_eq_true_eq] at hm
            have := thr_ok hn hm.2.1
            exact .inr (.inr ⟨hk, hm.1.1, List.eq_nil_of_length_eq_zero hm.1.2, ⟨by omega, by omega⟩, hm.2.2⟩)
          · cases hm
    · cases h
  · cases h
theorem roErr_ok {m : MoP} (hn : m.tys.length ≤ 256) {r : Ro} (h : roErr m r = 0) : RoOk r := by
  unfold roErr at h
  split at h
  · rename_i hf
    split at h
    · rename_i hm
      unfold roFit at hf
      simp only [Bool.and_eq_true, decide_eq_true_eq] at hf
      unfold roMay at hm
      simp only [Bool.and_eq_true, decide_eq_true_eq, List.all_eq_true] at hm
      obtain ⟨f1, f2, f3, f4, f5, f6⟩ := hf
      obtain ⟨m1, m2, m3, m4, m5⟩ := hm
      refine ⟨f5, f1, fun n hx => ?_, f2, fun n hx => ?_, ⟨by omega, by omega⟩, ⟨m4, by omega⟩, f4⟩
      · have := thr_ok hn (m1 n hx); exact ⟨by omega, by omega⟩
      · have := thr_ok hn (m2 n hx); exact ⟨by omega, by omega⟩
    · cases h
  · cases h
theorem fE_all {α : Type} {f : α → Nat} : ∀ {l : List α}, fE f l = 0 → ∀ x ∈ l, f x = 0 := by
  intro l
  induction l with
  | nil => intro _ x hx; cases hx
  | cons y r ih =>
    intro h x hx
    unfold fE at h
    by_cases h0 : f y = 0
    · rw [if_pos h0] at h
      rcases List.mem_cons.1 hx with rfl | hx
      · exact h0
      · exact ih h x hx
    · rw [if_neg h0] at h; exact absurd h h0
/-- What is right in all parts is one that can be written and read. -/
theorem fit_of {m : MoP} (h : partsE m = 0) : MoFit m.mo := by
  unfold partsE at h
  split at h
  · cases h
  · rename_i hn
    split at h
    · rename_i h1; exact absurd h h1
    · rename_i h1
      split at h
      · rename_i h2; exact absurd h h2
      · rename_i h2
        have h1 : fE (fun t : TyP => tyErr m.tys.length t.t) m.tys = 0 := by omega
        have h2 : fE txErr m.txs = 0 := by omega
        refine ⟨by simp [MoP.mo]; omega, by show m.txs.length ≤ _; omega, by simp [MoP.mo]; omega, fun t ht => ?_, fun s hs => ?_, fun r hr => ?_⟩
        · obtain ⟨x, hx, rfl⟩ := List.mem_map.1 ht
          exact tyErr_ok (by omega) (fE_all h1 x hx)
        · have := fE_all h2 s hs
          unfold txErr at this
          split at this
          · cases this
          · omega
        · obtain ⟨x, hx, rfl⟩ := List.mem_map.1 hr
          exact roErr_ok (by omega) (fE_all h x hx)
set_option maxHeartbeats 4000000 in
set_option maxRecDepth 100000 in
theorem module_is {w0 w : World} (hk : KB w0 w) {p : Nat} (hp : w0.heap.size ≤ p) (h : IwIs w p w0.heap.size []) {m : MoP} (hm : MoIn w0 m) (hs : Small m 100000) (hfit : MoFit m.mo) :
    Calls Tryz.prog 50 #[ptr p, .agg m.cs] w (IwRt p w0.heap.size (moB m.mo) w) := by
  have hB := hk.1
  have HP : Hid (w0.heap.size ≤ p) := hp
  have HK : Hid (∀ W, IwFr p w0.heap.size w W → KB w0 W) := fun W hf => hk.iw hp hf
  have HT1 : Hid (∀ W, KB w0 W → RowAt W m.ta 5 m.tys.length (tyF m.tys)) := fun W hb => hm.tyr.kb hb
  have HT2 : Hid (∀ t ∈ m.tys, ∀ W ys, IwFr p w0.heap.size w W → IwIs W p w0.heap.size ys → Calls Tryz.prog 91 #[ptr p, .agg (tyA t)] W (IwRt p w0.heap.size (ys ++ tyB t.t) W)) := fun t ht W ys hf hi => typ_is (hk.iw hp hf) hp hi (hm.ty t ht) (hs.fl t ht) (hfit.ty t.t (List.mem_map.2 ⟨t, ht, rfl⟩))
  have HX1 : Hid (∀ W, KB w0 W → RowAt W m.sa 1 m.txs.length (txF m.txs)) := fun W hb => hm.txr.kb hb
  have HX2 : Hid (∀ s ∈ m.txs, s.size ≤ 65536) := fun s hs => hfit.tx s hs
  have HF1 : Hid (∀ W, KB w0 W → RowAt W m.fa 6 m.fns.length (roF m.fns)) := fun W hb => hm.fnr.kb hb
  have HF2 : Hid (∀ r ∈ m.fns, ∀ W ys, IwFr p w0.heap.size w W → IwIs W p w0.heap.size ys → Calls Tryz.prog 93 #[ptr p, .agg (roA r)] W (IwRt p w0.heap.size (ys ++ roB r.r) W)) := fun r hr W ys hf hi => routine_is (hk.iw hp hf) hp hi (hm.fn r hr) (hs.ro r hr) (hfit.ro r.r (List.mem_map.2 ⟨r, hr, rfl⟩))
  obtain ⟨n1, hn1⟩ : ∃ n, n = m.tys.length := ⟨_, rfl⟩
  obtain ⟨n2, hn2⟩ : ∃ n, n = m.txs.length := ⟨_, rfl⟩
  obtain ⟨n3, hn3⟩ : ∃ n, n = m.fns.length := ⟨_, rfl⟩
  have HN1 : Hid (n1 = m.tys.length ∧ n1 ≤ 100000) := ⟨hn1, by rw [hn1]; exact hs.ty⟩
  have HN2 : Hid (n2 = m.txs.length ∧ n2 ≤ 100000) := ⟨hn2, by rw [hn2]; exact hs.tx⟩
  have HN3 : Hid (n3 = m.fns.length ∧ n3 ≤ 100000) := ⟨hn3, by rw [hn3]; exact hs.fn⟩
  have HE : Hid (moB m.mo = ((((([] ++ Q01.putN n1) ++ (m.tys.map fun t => tyB t.t).flatten) ++ Q01.putN n2) ++ (m.txs.map txB).flatten) ++ Q01.putN n3) ++ (m.fns.map fun r => roB r.r).flatten) := by
    unfold Hid moB liB MoP.mo
    simp only [List.length_map, List.map_map, List.nil_append, List.append_assoc]
    rw [hn1, hn2, hn3]; rfl
  rw [HE.out]
  unfold MoP.cs at *
  rw [← hn1, ← hn2, ← hn3]
  have oM := Own.new w #[.slice m.ta n1 m.tc, .slice m.sa n2 m.sc, .slice m.fa n3 m.fc] 26
  have bM := new_below w (.cells #[.slice m.ta n1 m.tc, .slice m.sa n2 m.sc, .slice m.fa n3 m.fc] 26)
  have h1 := h.below bM
  have f1 : IwFr p w0.heap.size w (w.alloc (.cells #[.slice m.ta n1 m.tc, .slice m.sa n2 m.sc, .slice m.fa n3 m.fc] 26)) := IwFr.of bM
  have hgp : w.heap.size ≠ p := by have := h.lt; omega
  have hB1 := Nat.le_trans hB bM.size
  generalize w0.heap.size = B at *
  clear hk hp h bM hB hm hs hfit hn1 hn2 hn3 HE
  go_enter Tryz.func50, Tryz.ntmps50
  go_upto_region 1 with fail
  generalize w.alloc (.cells #[.slice m.ta n1 m.tc, .slice m.sa n2 m.sc, .slice m.fa n3 m.fc] 26) = w1 at *
  generalize w.heap.size = g at *
  obtain ⟨x0, x1, x2, xf⟩ := own3 oM
  have hC := num_is h1 hB1 n1 (by have := HN1.out.2; omega)
  clear h1
  go_wp2_with fail
  refine hC.mono ?_
  rintro e w2 ⟨rfl, h2, k2⟩
  have oM2 := k2.typ g _ _ oM (by decide) hgp
  have f2 := f1.trans k2
  clear hC x0 x1 x2 xf oM f1 hB1 k2
  generalize hz1 : ([] ++ Q01.putN n1) = z1 at *
  have HZ1 : Hid (([] ++ Q01.putN n1) = z1) := hz1
  clear hz1
  have REL : Hid (IwIs w2 p B (z1 ++ (([] : List TyP).map fun t => tyB t.t).flatten) ∧ Own w2 g #[.slice m.ta n1 m.tc, .slice m.sa n2 m.sc, .slice m.fa n3 m.fc] 26 ∧ IwFr p B w w2) := ⟨by simpa using h2, oM2, f2⟩
  obtain ⟨x0, x1, x2, xf⟩ := own3 oM2
  clear h2 oM2 f2
  go_upto_region 3 with fail
  clear x0 x1 x2 xf
  go_wp2_with fail
  go_loopw [18] (fun i wr => ∃ k : Nat, k ≤ n1 ∧ i = .int .i64 (k : Int) ∧ IwIs wr p B (z1 ++ ((m.tys.take k).map fun t => tyB t.t).flatten) ∧ Own wr g #[.slice m.ta n1 m.tc, .slice m.sa n2 m.sc, .slice m.fa n3 m.fc] 26 ∧ IwFr p B w wr) (fun i _ => n1 - (intOf i).toNat)
  case atStart => exact ⟨0, Nat.zero_le _, rfl, REL.out⟩
  case round =>
    clear REL
    obtain ⟨k, hkn, rfl, hi, ho, hf⟩ := hrel
    by_cases hlt : k < n1
    · have hka : k < m.tys.length := by rw [← HN1.out.1]; exact hlt
      obtain ⟨t, HV⟩ : ∃ t, Hid (m.tys.getD k zTP = t) := ⟨_, rfl⟩
      have hmem : t ∈ m.tys := by rw [← HV.out]; exact getD_in hka
      obtain ⟨b, off, hta, c0, c1, c2, c3, c4⟩ := tyCells (HT1.out _ (HK.out _ hf)) hka t HV.out
      have HT : Hid (((m.tys.take (k + 1)).map fun t => tyB t.t).flatten = ((m.tys.take k).map fun t => tyB t.t).flatten ++ tyB t.t) := by rw [Hid, take_flat (fun t : TyP => tyB t.t) zTP m.tys k hka, HV.out]
      have hCC := HT2.out t hmem
      have oT := Own.new wr (tyA t) 49
      have bT := new_below wr (.cells (tyA t) 49)
      have hi5 := hi.below bT
      have ho5 := ho.below bT
      have f5 : IwFr p B w (wr.alloc (.cells (tyA t) 49)) := hf.trans (IwFr.of bT)
      unfold tyA at *
      rw [hta]
      have HTA : Hid (m.ta = some ⟨b, off, none⟩) := hta
      clear hi ho hf bT hmem hta
      go_upto_region 5 with fail
      clear c0 c1 c2 c3 c4
      generalize wr.alloc _ = w5 at *
      obtain ⟨y0, y1, y2, y3, y4, yf⟩ := own5' oT
      have hC := hCC w5 _ f5 hi5
      clear hCC hi5
      go_wp2_with fail
      refine hC.mono ?_
      rintro e w6 ⟨rfl, h6, k6⟩
      have ho6 := k6.typ g _ _ ho5 (by decide) hgp
      have f6 := f5.trans k6
      rw [List.append_assoc, ← HT.out] at h6
      have hkk : k ≤ 100000 := by have := HN1.out.2; omega
      clear hC y0 y1 y2 y3 y4 yf oT ho5 f5 k6
      go_wp2
      rw [← HTA.out]
      go_roundw
      case rel => exact ⟨k + 1, hlt, by go_num, h6, ho6, f6⟩
      case measure => simp [intOf]; omega
    · have e : m.tys.take k = m.tys := List.take_of_length_le (by have := HN1.out.1; omega)
      rw [e] at hi
      generalize hz2 : z1 ++ (m.tys.map fun t => tyB t.t).flatten = z2 at *
      have HZ2 : Hid (z1 ++ (m.tys.map fun t => tyB t.t).flatten = z2) := hz2
      clear hz2
      clear e HT1 HT2
      obtain ⟨x0, x1, x2, xf⟩ := own3 ho
      have hBr : B ≤ wr.heap.size := by have := hi.lt; have := HP.out; omega
      have hC := num_is hi hBr n2 (by have := HN2.out.2; omega)
      clear hi hBr
      go_wp2_with fail
      refine hC.mono ?_
      rintro e w7 ⟨rfl, h7, k7⟩
      have ho7 := k7.typ g _ _ ho (by decide) hgp
      have f7 := hf.trans k7
      clear hC x0 x1 x2 xf ho hf k7
      generalize hz3 : z2 ++ Q01.putN n2 = z3 at *
      have HZ3 : Hid (z2 ++ Q01.putN n2 = z3) := hz3
      clear hz3
      have REL : Hid (IwIs w7 p B (z3 ++ (([] : List ByteArray).map txB).flatten) ∧ Own w7 g #[.slice m.ta n1 m.tc, .slice m.sa n2 m.sc, .slice m.fa n3 m.fc] 26 ∧ IwFr p B w w7) := ⟨by simpa using h7, ho7, f7⟩
      obtain ⟨x0, x1, x2, xf⟩ := own3 ho7
      clear h7 ho7 f7
      go_upto_region 9 with fail
      clear x0 x1 x2 xf
      go_wp2_with fail
      go_loopw [34] (fun i wr => ∃ k : Nat, k ≤ n2 ∧ i = .int .i64 (k : Int) ∧ IwIs wr p B (z3 ++ ((m.txs.take k).map txB).flatten) ∧ Own wr g #[.slice m.ta n1 m.tc, .slice m.sa n2 m.sc, .slice m.fa n3 m.fc] 26 ∧ IwFr p B w wr) (fun i _ => n2 - (intOf i).toNat)
      case atStart => exact ⟨0, Nat.zero_le _, rfl, REL.out⟩
      case round =>
        clear REL
        obtain ⟨k, hkn, rfl, hi, ho, hf⟩ := hrel
        by_cases hlt : k < n2
        · have hka : k < m.txs.length := by rw [← HN2.out.1]; exact hlt
          obtain ⟨t, HV⟩ : ∃ t, Hid (m.txs.getD k ⟨#[]⟩ = t) := ⟨_, rfl⟩
          obtain ⟨b, off, hta, c0⟩ := txCell (HX1.out _ (HK.out _ hf)) hka t HV.out
          have hsz : t.size ≤ 65536 := by rw [← HV.out]; exact HX2.out _ (getD_in hka)
          have HT : Hid (((m.txs.take (k + 1)).map txB).flatten = ((m.txs.take k).map txB).flatten ++ txB t) := by rw [Hid, take_flat txB ⟨#[]⟩ m.txs k hka, HV.out]
          have hBr : B ≤ wr.heap.size := by have := hi.lt; have := HP.out; omega
          have hC := text_is hi hBr t hsz
          rw [hta]
          have HTA : Hid (m.sa = some ⟨b, off, none⟩) := hta
          clear hta hi hsz hBr
          go_wp2_with fail
          refine hC.mono ?_
          rintro e w6 ⟨rfl, h6, k6⟩
          have ho6 := k6.typ g _ _ ho (by decide) hgp
          have f6 := hf.trans k6
          rw [List.append_assoc, ← HT.out] at h6
          have hkk : k ≤ 100000 := by have := HN2.out.2; omega
          clear hC c0 ho hf k6
          go_wp2
          rw [← HTA.out]
          go_roundw
          case rel => exact ⟨k + 1, hlt, by go_num, h6, ho6, f6⟩
          case measure => simp [intOf]; omega
        · have e : m.txs.take k = m.txs := List.take_of_length_le (by have := HN2.out.1; omega)
          rw [e] at hi
          generalize hz4 : z3 ++ (m.txs.map txB).flatten = z4 at *
          have HZ4 : Hid (z3 ++ (m.txs.map txB).flatten = z4) := hz4
          clear hz4
          clear e HX1 HX2
          obtain ⟨x0, x1, x2, xf⟩ := own3 ho
          have hBr : B ≤ wr.heap.size := by have := hi.lt; have := HP.out; omega
          have hC := num_is hi hBr n3 (by have := HN3.out.2; omega)
          clear hi hBr
          go_wp2_with fail
          refine hC.mono ?_
          rintro e w7 ⟨rfl, h7, k7⟩
          have ho7 := k7.typ g _ _ ho (by decide) hgp
          have f7 := hf.trans k7
          clear hC x0 x1 x2 xf ho hf k7
          generalize hz5 : z4 ++ Q01.putN n3 = z5 at *
          have HZ5 : Hid (z4 ++ Q01.putN n3 = z5) := hz5
          clear hz5
          have REL : Hid (IwIs w7 p B (z5 ++ (([] : List RoP).map fun r => roB r.r).flatten) ∧ Own w7 g #[.slice m.ta n1 m.tc, .slice m.sa n2 m.sc, .slice m.fa n3 m.fc] 26 ∧ IwFr p B w w7) := ⟨by simpa using h7, ho7, f7⟩
          obtain ⟨x0, x1, x2, xf⟩ := own3 ho7
          clear h7 ho7 f7
          go_upto_region 15 with fail
          clear x0 x1 x2 xf
          go_wp2_with fail
          go_loopw [50] (fun i wr => ∃ k : Nat, k ≤ n3 ∧ i = .int .i64 (k : Int) ∧ IwIs wr p B (z5 ++ ((m.fns.take k).map fun r => roB r.r).flatten) ∧ Own wr g #[.slice m.ta n1 m.tc, .slice m.sa n2 m.sc, .slice m.fa n3 m.fc] 26 ∧ IwFr p B w wr) (fun i _ => n3 - (intOf i).toNat)
          case atStart => exact ⟨0, Nat.zero_le _, rfl, REL.out⟩
          case round =>
            clear REL
            obtain ⟨k, hkn, rfl, hi, ho, hf⟩ := hrel
            by_cases hlt : k < n3
            · have hka : k < m.fns.length := by rw [← HN3.out.1]; exact hlt
              obtain ⟨t, HV⟩ : ∃ t, Hid (m.fns.getD k zRP = t) := ⟨_, rfl⟩
              have hmem : t ∈ m.fns := by rw [← HV.out]; exact getD_in hka
              obtain ⟨b, off, hta, c0, c1, c2, c3, c4, c5⟩ := roCells (HF1.out _ (HK.out _ hf)) hka t HV.out
              have HT : Hid (((m.fns.take (k + 1)).map fun r => roB r.r).flatten = ((m.fns.take k).map fun r => roB r.r).flatten ++ roB t.r) := by rw [Hid, take_flat (fun r : RoP => roB r.r) zRP m.fns k hka, HV.out]
              have hCC := HF2.out t hmem
              have oT := Own.new wr (roA t) 55
              have bT := new_below wr (.cells (roA t) 55)
              have hi5 := hi.below bT
              have ho5 := ho.below bT
              have f5 : IwFr p B w (wr.alloc (.cells (roA t) 55)) := hf.trans (IwFr.of bT)
              unfold roA at *
              rw [hta]
              have HTA : Hid (m.fa = some ⟨b, off, none⟩) := hta
              clear hi ho hf bT hmem hta
              go_upto_region 17 with fail
              clear c0 c1 c2 c3 c4 c5
              generalize wr.alloc _ = w5 at *
              obtain ⟨y0, y1, y2, y3, y4, y5, yf⟩ := own6 oT
              have hC := hCC w5 _ f5 hi5
              clear hCC hi5
              go_wp2_with fail
              refine hC.mono ?_
              rintro e w6 ⟨rfl, h6, k6⟩
              have ho6 := k6.typ g _ _ ho5 (by decide) hgp
              have f6 := f5.trans k6
              rw [List.append_assoc, ← HT.out] at h6
              have hkk : k ≤ 100000 := by have := HN3.out.2; omega
              clear hC y0 y1 y2 y3 y4 y5 yf oT ho5 f5 k6
              go_wp2
              rw [← HTA.out]
              go_roundw
              case rel => exact ⟨k + 1, hlt, by go_num, h6, ho6, f6⟩
              case measure => simp [intOf]; omega
            · have e : m.fns.take k = m.fns := List.take_of_length_le (by have := HN3.out.1; omega)
              rw [e] at hi
              clear ho
              go_wp2
              go_end0
              refine ⟨rfl, ?_, hf⟩
              rw [← HZ5.out, ← HZ4.out, ← HZ3.out, ← HZ2.out, ← HZ1.out] at hi
              simpa using hi
end Go.Proofs.YtmmbdpdpkkikjaaGreat
