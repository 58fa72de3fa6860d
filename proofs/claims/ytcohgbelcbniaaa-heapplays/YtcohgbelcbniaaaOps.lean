/-
  CALLS AS VALUES: a script's calls, and what one of them does to a heap.
-/
import Derived.Test.YtcohgbelcbniaaaRep
namespace Go.Proofs.Ytcohgbelcbniaaa
open Go.RowKit
set_option linter.unusedVariables false

structure Op where
  kind : Int
  text : ByteArray
  n : Int
  m : Int
  words : List Int
  ref : Int
  i : Int
  word : Int
  ao : Option Addr
  cap : Nat
def dO : Op := ⟨0, empt, 0, 0, [], 0, 0, 0, none, 0⟩
def opV (s : Op) : List Value := [.int .i64 s.kind, .string s.text, .int .i64 s.n, .int .i64 s.m, .slice s.ao s.words.length s.cap, .int .u64 s.ref, .int .i64 s.i, .int .u64 s.word]
/-- What is known of a call that came in. -/
structure OpOk (A : World) (s : Op) : Prop where
  txt : s.text.size ≤ 140737488355328
  wl : s.words.length ≤ 140737488355328
  kd : -9223372036854775808 ≤ s.kind ∧ s.kind < 9223372036854775808
  n : -9223372036854775808 ≤ s.n ∧ s.n < 9223372036854775808
  m : -9223372036854775808 ≤ s.m ∧ s.m < 9223372036854775808
  ref : 0 ≤ s.ref ∧ s.ref < 18446744073709551616
  i : -9223372036854775808 ≤ s.i ∧ s.i < 9223372036854775808
  word : 0 ≤ s.word ∧ s.word < 18446744073709551616
  ws : WordsAt A s.ao s.cap s.words
structure OpsAt (A : World) (ao : Option Addr) (cap : Nat) (ss : List Op) : Prop where
  ok : ∀ s ∈ ss, OpOk A s
  cell : ss = [] ∨ ∃ b o, ao = some ⟨b, o, none⟩ ∧ b < A.heap.size ∧ ∀ i, i < ss.length → ∀ j, j < 8 → A.cell? ⟨b, o + i * 8 + j, none⟩ = (opV (ss.getD i dO))[j]?
  capl : ss.length ≤ cap
  capm : cap ≤ maxLen
theorem OpsAt.get {A W : World} {ao : Option Addr} {cap : Nat} {ss : List Op} (h : OpsAt A ao cap ss) (hb : Below A.heap.size A W) {i : Nat} (hi : i < ss.length) : ∃ b o s, ao = some ⟨b, o, none⟩ ∧ ss.getD i dO = s ∧ s ∈ ss ∧ OpOk A s ∧ b < A.heap.size ∧ ∀ j, j < 8 → W.cell? ⟨b, o + i * 8 + j, none⟩ = (opV s)[j]? := by
  have e1 : ss.getD i dO = ss[i] := by rw [List.getD_eq_getElem?_getD, List.getElem?_eq_getElem hi]; rfl
  rcases h.cell with q | ⟨b, o, e, hl, hc⟩
  · rw [q] at hi; simp at hi
  · refine ⟨b, o, ss.getD i dO, e, rfl, by rw [e1]; exact List.getElem_mem hi, h.ok _ (by rw [e1]; exact List.getElem_mem hi), hl, fun j hj => ?_⟩
    rw [World.cell?_of_block (a := ⟨b, o + i * 8 + j, none⟩) (hb.block b hl)]
    exact hc i hi j hj
def M.runR (m : M) (s : Op) : Int := if s.kind = 0 then (m.ths.length : Int) + 1 else if s.kind = 1 then m.textR s.text else if s.kind = 2 then m.madeR (1 + s.words.length) else if s.kind = 3 then m.fillR s.m else if s.kind = 4 then m.madeR 1 else 0
def M.runT (m : M) (s : Op) : Int := if s.kind = 0 then 0 else if s.kind = 1 then m.textT s.text else if s.kind = 2 then m.madeT (1 + s.words.length) else if s.kind = 3 then m.fillT s.m else if s.kind = 4 then m.madeT 1 else if s.kind = 5 then m.getT s.ref s.i else if s.kind = 6 then m.getT s.ref s.i else if s.kind = 7 then m.pushT s.ref else m.dropT s.ref
def M.ran (m : M) (s : Op) : M := if s.kind = 0 then m.keep (tText s.text) else if s.kind = 1 then m.texted s.text else if s.kind = 2 then m.made (tRec s.n s.words) (1 + s.words.length) else if s.kind = 3 then m.filled s.n s.m s.word else if s.kind = 4 then m.made (tGrow s.n) 1 else if s.kind = 5 then m else if s.kind = 6 then m.put s.ref s.i s.word else if s.kind = 7 then m.pushed s.ref s.word else m.dropped s.ref
theorem own8 {w : World} {g : Nat} {s : Op} {t : TypeId} (h : Own w g (opV s).toArray t) : w.cell? ⟨g, 0, none⟩ = some (.int .i64 s.kind) ∧ w.cell? ⟨g, 1, none⟩ = some (.string s.text) ∧ w.cell? ⟨g, 2, none⟩ = some (.int .i64 s.n) ∧ w.cell? ⟨g, 3, none⟩ = some (.int .i64 s.m) ∧ w.cell? ⟨g, 4, none⟩ = some (.slice s.ao s.words.length s.cap) ∧ w.cell? ⟨g, 5, none⟩ = some (.int .u64 s.ref) ∧ w.cell? ⟨g, 6, none⟩ = some (.int .i64 s.i) ∧ w.cell? ⟨g, 7, none⟩ = some (.int .u64 s.word) :=
  ⟨h.cell 0, h.cell 1, h.cell 2, h.cell 3, h.cell 4, h.cell 5, h.cell 6, h.cell 7⟩
set_option maxRecDepth 100000 in
set_option maxHeartbeats 2000000 in
theorem runH {A W : World} {p : Nat} {m : M} {F : Nat → Prop} (h : HAt W p m F) (hn : m.ths.length ≤ 100000) {s : Op} (ho : OpOk A s) (hA : Below A.heap.size A W) (hF : ∀ b, F b → A.heap.size ≤ b) (hl : s.text.size ≤ 131072 ∧ s.words.length ≤ 131072) :
    Calls Try.prog 18 #[ptr p, .agg (opV s).toArray] W fun e w' => e = .returned (.tuple #[.int .u64 (m.runR s), .int .i64 (m.runT s)]) ∧ HRet W p (m.ran s) F w' := by
  have hbb : Below W.heap.size W (W.alloc (.cells (opV s).toArray 26)) := (Below.refl _ W).alloc (Nat.le_refl _) (.cells (opV s).toArray 26)
  have HB := h.below hbb
  have HBB : Hid (∀ m' w', HRet (W.alloc (.cells (opV s).toArray 26)) p m' F w' → HRet W p m' F w') := fun m' w' hr => hr.base hbb
  have HSM : Hid (HRet W p m F (W.alloc (.cells (opV s).toArray 26))) := HRet.same h hbb
  have hwA : WordsAt (W.alloc (.cells (opV s).toArray 26)) s.ao s.cap s.words := (ho.ws.below hA).below hbb
  have hnF : s.words ≠ [] → ∀ b o, s.ao = some ⟨b, o, none⟩ → b < (W.alloc (.cells (opV s).toArray 26)).heap.size → ¬ F b := by
    intro hne b o e _ q
    rcases ho.ws.cell with x | ⟨b', o', e', hb', _⟩
    · exact hne x
    · rw [e] at e'; cases e'
      have := hF b q; omega
  have hbox := Own.new W (opV s).toArray 26
  obtain ⟨c0, c1, c2, c3, c4, c5, c6, c7⟩ := own8 hbox
  have hcm := ho.ws.capm
  have hcl := ho.ws.capl
  unfold M.runR M.runT M.ran
  have hc0 := constS HB hn s.text (by omega)
  have hc1 := textS HB hn s.text (by unfold maxLen; omega)
  have hc2 := recordS HB hn s.n s.ao s.cap s.words hwA hnF (by omega)
  have hc3 := fillS HB hn s.n s.m s.word ho.m.1 ho.m.2 ho.word
  have hc4 := emptyS HB hn s.n
  have hc5 := getS HB (by omega) s.ref s.i ho.ref.1 ho.ref.2 ho.i.1 ho.i.2
  have hc6 := setS HB (by omega) s.ref s.i s.word ho.ref.1 ho.ref.2 ho.i.1 ho.i.2 ho.word
  have hc7 := pushS HB (by omega) s.ref s.word ho.ref.1 ho.ref.2 ho.word
  have hc8 := dropS HB (by omega) s.ref ho.ref.1 ho.ref.2
  obtain ⟨kd, tx, nn, mm, ws, ref, i, word, ao, cap⟩ := s
  simp only at *
  obtain ⟨l, hlw⟩ : ∃ l, Hid (ws.length = l) := ⟨_, rfl⟩
  rw [hlw.out] at c4 hc2 hcl hl ⊢
  unfold maxLen at hcm
  have hopv : (opV ⟨kd, tx, nn, mm, ws, ref, i, word, ao, cap⟩).toArray = #[.int .i64 kd, .string tx, .int .i64 nn, .int .i64 mm, .slice ao l cap, .int .u64 ref, .int .i64 i, .int .u64 word] := by unfold opV; simp only [hlw.out]
  rw [hopv] at c0 c1 c2 c3 c4 c5 c6 c7 hc0 hc1 hc2 hc3 hc4 hc5 hc6 hc7 hc8 HBB HSM ⊢
  clear HB hbox ho hopv hlw hwA hnF hF hA hbb h
  by_cases k0 : kd = 0
  · subst k0
    simp only [if_true]
    clear hc1 hc2 hc3 hc4 hc5 hc6 hc7 hc8
    go_enter Try.func18, Try.ntmps18
    go_wp2_with (go_at_call 28; refine hc0.mono ?_; rintro e w2 ⟨rfl, h2⟩; have H2 : Hid _ := HBB.out _ _ h2; clear h2)
    go_ret2
    exact ⟨rfl, H2.out⟩
  rw [if_neg k0, if_neg k0, if_neg k0]
  by_cases k1 : kd = 1
  · subst k1
    simp only [if_true]
    clear hc0 hc2 hc3 hc4 hc5 hc6 hc7 hc8 k0
    go_enter Try.func18, Try.ntmps18
    go_wp2_with (go_at_call 27; refine hc1.mono ?_; rintro e w2 ⟨rfl, h2⟩; have H2 : Hid _ := HBB.out _ _ h2; clear h2)
    go_ret2
    exact ⟨rfl, H2.out⟩
  rw [if_neg k1, if_neg k1, if_neg k1]
  by_cases k2 : kd = 2
  · subst k2
    simp only [if_true]
    clear hc0 hc1 hc3 hc4 hc5 hc6 hc7 hc8 k0 k1
    go_enter Try.func18, Try.ntmps18
    go_wp2_with (go_at_call 20; refine hc2.mono ?_; rintro e w2 ⟨rfl, h2⟩; have H2 : Hid _ := HBB.out _ _ h2; clear h2)
    go_ret2
    exact ⟨rfl, H2.out⟩
  rw [if_neg k2, if_neg k2, if_neg k2]
  by_cases k3 : kd = 3
  · subst k3
    simp only [if_true]
    clear hc0 hc1 hc2 hc4 hc5 hc6 hc7 hc8 k0 k1 k2
    go_enter Try.func18, Try.ntmps18
    go_wp2_with (go_at_call 32; refine hc3.mono ?_; rintro e w2 ⟨rfl, h2⟩; have H2 : Hid _ := HBB.out _ _ h2; clear h2)
    go_ret2
    exact ⟨rfl, H2.out⟩
  rw [if_neg k3, if_neg k3, if_neg k3]
  by_cases k4 : kd = 4
  · subst k4
    simp only [if_true]
    clear hc0 hc1 hc2 hc3 hc5 hc6 hc7 hc8 k0 k1 k2 k3
    go_enter Try.func18, Try.ntmps18
    go_wp2_with (go_at_call 23; refine hc4.mono ?_; rintro e w2 ⟨rfl, h2⟩; have H2 : Hid _ := HBB.out _ _ h2; clear h2)
    go_ret2
    exact ⟨rfl, H2.out⟩
  rw [if_neg k4, if_neg k4, if_neg k4]
  by_cases k5 : kd = 5
  · subst k5
    simp only [if_true]
    clear hc0 hc1 hc2 hc3 hc4 hc6 hc7 hc8 k0 k1 k2 k3 k4
    go_enter Try.func18, Try.ntmps18
    go_wp2_with (go_at_call 22; refine hc5.mono ?_; rintro e w2 ⟨rfl, rfl⟩)
    go_ret2
    exact ⟨rfl, HSM.out⟩
  rw [if_neg k5, if_neg k5]
  by_cases k6 : kd = 6
  · subst k6
    simp only [if_true]
    clear hc0 hc1 hc2 hc3 hc4 hc5 hc7 hc8 k0 k1 k2 k3 k4 k5
    go_enter Try.func18, Try.ntmps18
    go_wp2_with (go_at_call 21; refine hc6.mono ?_; rintro e w2 ⟨rfl, h2⟩; have H2 : Hid _ := HBB.out _ _ h2; clear h2)
    go_ret2
    exact ⟨rfl, H2.out⟩
  rw [if_neg k6, if_neg k6]
  by_cases k7 : kd = 7
  · subst k7
    simp only [if_true]
    clear hc0 hc1 hc2 hc3 hc4 hc5 hc6 hc8 k0 k1 k2 k3 k4 k5 k6
    go_enter Try.func18, Try.ntmps18
    go_wp2_with (go_at_call 24; refine hc7.mono ?_; rintro e w2 ⟨rfl, h2⟩; have H2 : Hid _ := HBB.out _ _ h2; clear h2)
    go_ret2
    exact ⟨rfl, H2.out⟩
  rw [if_neg k7, if_neg k7]
  clear hc0 hc1 hc2 hc3 hc4 hc5 hc6 hc7
  go_enter Try.func18, Try.ntmps18
  go_wp2_with (go_at_call 26; refine hc8.mono ?_; rintro e w2 ⟨rfl, h2⟩; have H2 : Hid _ := HBB.out _ _ h2; clear h2)
  go_ret2
  exact ⟨rfl, H2.out⟩
end Go.Proofs.Ytcohgbelcbniaaa
