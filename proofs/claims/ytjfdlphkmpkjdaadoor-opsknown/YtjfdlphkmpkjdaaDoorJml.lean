/-
  ROWS OF ANY KIND; append of what lies anywhere; the kit's LentInts.
  THE KIT'S Bulk: how many things and bytes a module has.
-/
import Derived.Test.YtjfdlphkmpkjdaaDoorJbs
namespace Go.Proofs.YtjfdlphkmpkjdaaDoor
open Go.RowKit
set_option linter.unusedVariables false

theorem flat_len {α : Type} (g : α → List Value) (sz : Nat) (hg : ∀ x, (g x).length = sz) : ∀ l : List α, ((l.map g).flatten).length = l.length * sz := by
  intro l
  induction l with
  | nil => simp
  | cons x r ih => simp only [List.map_cons, List.flatten_cons, List.length_append, ih, hg, List.length_cons, Nat.add_mul]; omega
theorem flat_get {α : Type} (g : α → List Value) (sz : Nat) (hg : ∀ x, (g x).length = sz) (z : α) : ∀ (l : List α) (i d : Nat), i < l.length → d < sz → ((l.map g).flatten)[i * sz + d]? = (g (l.getD i z))[d]? := by
  intro l
  induction l with
  | nil => intro i d h; cases h
  | cons x r ih =>
    intro i d h hd
    simp only [List.map_cons, List.flatten_cons]
    cases i with
    | zero =>
      rw [List.getElem?_append_left (by rw [hg]; omega)]
      simp
    | succ i =>
      rw [List.getElem?_append_right (by rw [hg, Nat.add_mul]; omega), hg, show (i + 1) * sz + d - sz = i * sz + d by rw [Nat.add_mul]; omega, ih i d (by simpa using h) hd]
      simp
/-- A row of a call's own, as things that lie. -/
theorem rw_rowAt {w : World} {e : TypeId} {sz n m c : Nat} {a : Option Addr} {cs : List Value} {f : Nat → Nat → Value} (h : Rw w e sz (.slice a m c) m cs) (hn : n ≤ m) (hf : ∀ i, i < n → ∀ d, d < sz → cs[i * sz + d]? = some (f i d)) : RowAt w a sz n f := by
  by_cases h0 : n = 0
  · exact .inl h0
  · obtain ⟨g, cap, cur, e, ho, -⟩ := h.block (by omega)
    cases e
    refine .inr ⟨g, 0, rfl, fun i hi d hd => ?_⟩
    rw [Nat.zero_add]
    exact h.cells _ _ (hf i hi d hd)
/-- append of a row that lies anywhere, or of none. -/
theorem run_appG {tS e : TypeId} {z : Value} {size bytes : Nat} (I : ElemOk tS e z size bytes) (W : World) (ty : TypeId) (v : Value) (k : Nat) (ys : List Value) (hown : Rw W e size v k ys) (ao : Option Addr) (n cap : Nat) (xs : List Value) (hl : xs.length = n * size) (hr : n = 0 ∨ ∃ b off, ao = some ⟨b, off, none⟩ ∧ ∀ j u, xs[j]? = some u → W.cell? ⟨b, off + j, none⟩ = some u) (hno : ao = none → cap = 0) (h1 : ∀ u ∈ xs, u.oneCell' = true) (hn : k + n ≤ 100000000000) :
    ∃ ao' c' w', (Builtin.append_ #[tS, tS] ty #[v, .slice ao n cap]).run Tryd.prog W = .ok (.slice ao' (k + n) c') w' ∧ Rw w' e size (.slice ao' (k + n) c') (k + n) (ys ++ xs) ∧ W.grownBy w' v.ownBlock ∧ ((Value.slice ao' (k + n) c').ownBlock = v.ownBlock ∨ (Value.slice ao' (k + n) c').ownBlock = some W.heap.size) := by
  cases ao with
  | none =>
    have hn0 : n = 0 := by
      rcases hr with h0 | ⟨b, off, h0, _⟩
      · exact h0
      · cases h0
    have hc0 := hno rfl
    subst hn0; subst hc0
    have hx : xs = [] := List.eq_nil_of_length_eq_zero (by rw [hl]; omega)
    subst hx
    obtain ⟨a1, cp, rfl, -⟩ := hown.shape
    obtain ⟨i8, hi, hz0, hz1, hz2⟩ := info_parts I.info
    have hrun := run_append_owned_none (P := Tryd.prog) (w := W) 0 tS ty e i8 size I.under hi _ _ _ hown
    exact ⟨a1, cp, W, hrun, by simpa using hown, World.grownBy.refl _ _, .inl rfl⟩
  | some ad =>
    have hr2 : ∀ j u, xs[j]? = some u → W.cell? (ad.add j) = some u := by
      intro j u hu
      rcases hr with h0 | ⟨b, off, h0, hc⟩
      · have : xs = [] := List.eq_nil_of_length_eq_zero (by rw [hl, h0]; omega)
        rw [this] at hu; cases hu
      · cases h0
        rw [← hc j u hu]
        congr 1
        unfold Addr.add; split <;> simp_all
    obtain ⟨v', w', hrun, g1, g2, g4⟩ := run_appA I W ty v k ys hown ad n cap xs hl hr2 h1 hn
    obtain ⟨ao', c', rfl, -⟩ := g1.shape
    exact ⟨ao', c', w', hrun, g1, g2, g4⟩
theorem wpList_appG {tS e : TypeId} {z : Value} {size bytes : Nat} (I : ElemOk tS e z size bytes) {W : World} {ops : Array Oper} {rest : List Oper} {o : Oper} {a : Act} {Q : Exit → Act → World → Prop} (hgd : o.guard = none) (s x : Operand)
    (ho : o.op = .call { callee := .builtin .append, args := #[s, x], argTypes := #[tS, tS] }) (v : Value) (k : Nat) (ys : List Value) (hs : a.eval s = v) (hown : Rw W e size v k ys) (ao : Option Addr) (n cap : Nat) (xs : List Value) (hx : a.eval x = .slice ao n cap) (hl : xs.length = n * size) (hr : n = 0 ∨ ∃ b off, ao = some ⟨b, off, none⟩ ∧ ∀ j u, xs[j]? = some u → W.cell? ⟨b, off + j, none⟩ = some u) (hno : ao = none → cap = 0) (h1 : ∀ u ∈ xs, u.oneCell' = true) (hn : k + n ≤ 100000000000)
    (h : ∀ ao' c' w', Rw w' e size (.slice ao' (k + n) c') (k + n) (ys ++ xs) → W.grownBy w' v.ownBlock → ((Value.slice ao' (k + n) c').ownBlock = v.ownBlock ∨ (Value.slice ao' (k + n) c').ownBlock = some W.heap.size) → wpList Tryd.prog ops Q rest (a.put o.dst (.slice ao' (k + n) c')) w') :
    wpList Tryd.prog ops Q (o :: rest) a W := by
  obtain ⟨ao', c', w', hrun, g1, g2, g4⟩ := run_appG I W o.type v k ys hown ao n cap xs hl hr hno h1 hn
  refine wpList_plain hgd fun K hK => ?_
  unfold Oper.wp execOp
  simp only [ho, resolve, invoke, builtin, Sem.run_bind, Sem.run_pure, Result.andThen_ok, List.map_toArray, List.map_cons, List.map_nil, hs, hx, hrun]
  exact hK _ _ (h ao' c' w' g1 g2 g4)
/-- append of a row that lies anywhere, or of none, to nothing. -/
theorem wpList_app0 {tS e : TypeId} {z : Value} {size bytes : Nat} (I : ElemOk tS e z size bytes) {W : World} {ops : Array Oper} {rest : List Oper} {o : Oper} {a : Act} {Q : Exit → Act → World → Prop} (hgd : o.guard = none) (s x : Operand)
    (ho : o.op = .call { callee := .builtin .append, args := #[s, x], argTypes := #[tS, tS] }) (hs : a.eval s = .slice none 0 0) (ao : Option Addr) (n cap : Nat) (xs : List Value) (hx : a.eval x = .slice ao n cap) (hl : xs.length = n * size) (hr : n = 0 ∨ ∃ b off, ao = some ⟨b, off, none⟩ ∧ ∀ j u, xs[j]? = some u → W.cell? ⟨b, off + j, none⟩ = some u) (hno : ao = none → cap = 0) (h1 : ∀ u ∈ xs, u.oneCell' = true) (hn : n ≤ 100000000000)
    (h : ∀ ao' c' w', Rw w' e size (.slice ao' n c') n xs → Below W.heap.size W w' → (∀ b, (Value.slice ao' n c').ownBlock = some b → b = W.heap.size) → wpList Tryd.prog ops Q rest (a.put o.dst (.slice ao' n c')) w') :
    wpList Tryd.prog ops Q (o :: rest) a W := by
  refine wpList_appG I hgd s x ho (.slice none 0 0) 0 [] hs (World.ownsRow_nil _ _ _ _) ao n cap xs hx hl hr hno h1 (by omega) (fun ao' c' w' q1 q2 q3 => ?_)
  rw [Nat.zero_add] at q1 q3 ⊢
  refine h ao' c' w' (by simpa using q1) ((Below.refl _ _).grown q2 (Nat.le_refl _) (fun k e => by cases e)) (fun b q => ?_)
  rcases q3 with q3 | q3
  · rw [q3] at q; cases q
  · rw [q3] at q; cases q; rfl
/-- Things that lie, as what an append reads. -/
theorem RowAt.read {w : World} {a : Option Addr} {sz n : Nat} {f : Nat → Nat → Value} (h : RowAt w a sz n f) {cs : List Value} (hl : cs.length = n * sz) (hp : 0 < sz) (hf : ∀ i, i < n → ∀ d, d < sz → cs[i * sz + d]? = some (f i d)) : n = 0 ∨ ∃ b off, a = some ⟨b, off, none⟩ ∧ ∀ j u, cs[j]? = some u → w.cell? ⟨b, off + j, none⟩ = some u := by
  rcases h with h0 | ⟨b, off, rfl, hc⟩
  · exact .inl h0
  · refine .inr ⟨b, off, rfl, fun j u hu => ?_⟩
    have hj : j < n * sz := by
      rw [← hl]
      exact (List.getElem?_eq_some_iff.1 hu).1
    have hdm := Nat.div_add_mod j sz
    have hm : j % sz < sz := Nat.mod_lt _ hp
    have hd : j / sz < n := Nat.div_lt_of_lt_mul (by rw [Nat.mul_comm]; exact hj)
    have e1 : j = j / sz * sz + j % sz := by rw [Nat.mul_comm]; exact hdm.symm
    have h1 := hc (j / sz) hd (j % sz) hm
    have h2 := hf (j / sz) hd (j % sz) hm
    rw [← e1, hu] at h2
    rw [h2, ← h1, Nat.add_assoc, ← e1]
def intV (l : List Int) : List Value := l.map fun x => Value.int .i64 x
theorem intV_length (l : List Int) : (intV l).length = l.length := by simp [intV]
theorem intV_one (l : List Int) : ∀ u ∈ intV l, u.oneCell' = true := by
  intro u hu
  obtain ⟨x, _, rfl⟩ := List.mem_map.1 hu
  rfl
theorem intV_get (l : List Int) (i : Nat) (h : i < l.length) (d : Nat) (hd : d < 1) : (intV l)[i * 1 + d]? = some (inF l i d) := by
  obtain rfl : d = 0 := by omega
  simp [intV, inF, List.getD, h]
def mkI : List Int := [-771, -772, -773]
/-- Numbers that are lent: a row that holds them, and three marks behind. -/
def LentI (w : World) (g n c : Nat) (xs : List Int) : Prop := Rw w 3 1 (.slice (some ⟨g, 0, none⟩) (n + 3) c) (n + 3) (intV (xs ++ mkI))
theorem LentI.row {w : World} {g n c : Nat} {xs : List Int} (h : LentI w g n c xs) (hn : n = xs.length) : RowAt w (some ⟨g, 0, none⟩) 1 xs.length (inF xs) := by
  refine rw_rowAt h (by omega) (fun i hi d hd => ?_)
  rw [intV_get _ i (by simp; omega) d hd]
  unfold inF
  simp [List.getD, List.getElem?_append, hi]
structure LiRel (w : World) (n : Nat) (xs : List Int) (k : Nat) (v : Value) (wr : World) : Prop where
  row : Rw wr 3 1 v (n + k) (intV (xs ++ mkI.take k))
  new : ∀ b, v.ownBlock = some b → w.heap.size ≤ b
  bel : Below w.heap.size w wr
set_option maxHeartbeats 2000000 in
set_option maxRecDepth 100000 in
theorem klentI_as {w : World} {a : Option Addr} {n c : Nat} {xs : List Int} (hl : RowAt w a 1 xs.length (inF xs)) (hn : n = xs.length) (hno : a = none → c = 0) (hm : n ≤ 1000000) :
    Calls Tryd.prog 21 #[.slice a n c] w fun e w' => ∃ g c', e = .returned (.slice (some ⟨g, 0, none⟩) n c') ∧ LentI w' g n c' xs ∧ n + 3 ≤ c' ∧ w.heap.size ≤ g ∧ Below w.heap.size w w' := by
  have R0 : Rw w 3 1 (.slice none 0 0) 0 [] := World.ownsRow_nil _ _ _ _
  have HR : Hid (n = 0 ∨ ∃ b off, a = some ⟨b, off, none⟩ ∧ ∀ j u, (intV xs)[j]? = some u → w.cell? ⟨b, off + j, none⟩ = some u) := by
    rw [Hid, hn]
    exact hl.read (by rw [intV_length]; omega) (by omega) (fun i hi d hd => intV_get xs i hi d hd)
  have HN : Hid (n = xs.length) := hn
  have HNO : Hid (a = none → c = 0) := hno
  have HF : Hid (∀ (a1 : Option Addr) (c1 : Nat) (w1 : World), Rw w1 3 1 (.slice a1 (0 + n) c1) (0 + n) ([] ++ intV xs) → w.grownBy w1 (Value.slice none 0 0).ownBlock → ((Value.slice a1 (0 + n) c1).ownBlock = (Value.slice none 0 0).ownBlock ∨ (Value.slice a1 (0 + n) c1).ownBlock = some w.heap.size) → LiRel w n xs 0 (.slice a1 (0 + n) c1) w1) := by
    intro a1 c1 w1 h1 h2 h3
    rw [Nat.zero_add] at h1 h3 ⊢
    refine ⟨by simpa [mkI] using h1, fun b q => ?_, (Below.refl _ _).grown h2 (Nat.le_refl _) (fun k e => by cases e)⟩
    rcases h3 with e | e
    · rw [e] at q; cases q
    · rw [e] at q; cases q; exact Nat.le_refl _
  clear hl hn hno
  go_enter Tryd.func21, Tryd.ntmps21
  go_wp2_with (refine wpList_appG okN (by rfl) (.tmp 5) (.tmp 6) (by rfl) _ 0 [] (by rfl) R0 a n c (intV xs) (by rfl) (by rw [intV_length, HN.out]; omega) HR.out HNO.out (intV_one xs) (by omega) ?_; intro a1 c1 w1 q1 q2 q3; have HS := HF.out a1 c1 w1 q1 q2 q3; clear q1 q2 q3 HF R0 HR)
  have REL : Hid (LiRel w n xs 0 (.slice a1 n c1) w1) := by rw [Nat.zero_add] at HS; exact HS
  clear HS
  go_loopg [3, 4] 3 (fun g v i wr => ∃ k : Nat, k + g = 3 ∧ i = .int .i64 (k : Int) ∧ LiRel w n xs k v wr)
  case atStart => exact ⟨0, rfl, rfl, REL.out⟩
  case round =>
    clear REL
    obtain ⟨k, hk, rfl, hR⟩ := hrel
    obtain ⟨a2, c2, rfl, -⟩ := hR.row.shape
    cases gk with
    | succ gq =>
      have hk3 : k < 3 := by omega
      have oE := Own.new wr #[.int .i64 (-771 - (k : Int))] 3
      have rowA := hR.row.alloc (.cells #[.int .i64 (-771 - (k : Int))] 3)
      have hki : (k : Int) < 3 := by omega
      have hk0 : (0 : Int) ≤ (k : Int) := by omega
      have HA : Hid (∀ (a3 : Option Addr) (c3 : Nat) (wz : World), Rw wz 3 1 (.slice a3 (n + k + 1) c3) (n + k + 1) (intV (xs ++ mkI.take k) ++ [.int .i64 (-771 - (k : Int))]) → (wr.alloc (.cells #[.int .i64 (-771 - (k : Int))] 3)).grownBy wz (Value.slice a2 (n + k) c2).ownBlock → ((Value.slice a3 (n + k + 1) c3).ownBlock = (Value.slice a2 (n + k) c2).ownBlock ∨ (Value.slice a3 (n + k + 1) c3).ownBlock = some (wr.alloc (.cells #[.int .i64 (-771 - (k : Int))] 3)).heap.size) → LiRel w n xs (k + 1) (.slice a3 (n + k + 1) c3) wz) := by
        intro a3 c3 wz q1 q2 q3
        refine ⟨?_, fun b e => ?_, (hR.bel.alloc hR.bel.size _).grown q2 (Nat.le_trans hR.bel.size (by simp)) (fun k e => hR.new k e)⟩
        · have e : intV (xs ++ mkI.take (k + 1)) = intV (xs ++ mkI.take k) ++ [.int .i64 (-771 - (k : Int))] := by
            have : k = 0 ∨ k = 1 ∨ k = 2 := by omega
            rcases this with rfl | rfl | rfl <;> simp [intV, mkI]
          rw [e]; exact q1
        · rcases q3 with q3 | q3
          · exact hR.new b (by rw [← q3]; exact e)
          · rw [q3] at e; cases e; have := hR.bel.size; simp; omega
      have hnk : n + k ≤ 10000000 := by omega
      clear hR
      go_wp2_with (refine wpList_app1 okN (by rfl) (.tmp 12) (.tmp 15) (by rfl) _ (n + k) (intV (xs ++ mkI.take k)) (by rfl) rowA wr.heap.size [.int .i64 (-771 - (k : Int))] (by rfl) oE rfl (by simp [Value.oneCell']) hnk ?_; intro a3 c3 wz q1 q2 q3; have HS := HA.out a3 c3 wz q1 q2 q3; clear q1 q2 q3 HA rowA oE)
      go_roundg gq
      case measure => omega
      case rel => exact ⟨k + 1, by omega, by go_num, HS⟩
    | zero =>
      obtain rfl : k = 3 := by omega
      obtain ⟨g, cap, cur, e, -, hcap, -⟩ := hR.row.block (by omega)
      cases e
      have HZ : Hid (LentI wr g n c2 xs ∧ n + 3 ≤ c2 ∧ w.heap.size ≤ g ∧ Below w.heap.size w wr) := ⟨hR.row, hcap, hR.new g rfl, hR.bel⟩
      have e1 : (n : Int) ≤ (c2 : Int) := by omega
      have e2 : n ≤ c2 := by omega
      have e3 : ¬ c2 = 0 := by omega
      clear hR
      go_wp2
      go_ret
      exact ⟨g, c2, rfl, HZ.out⟩
end Go.Proofs.YtjfdlphkmpkjdaaDoor
namespace Go.Proofs.YtjfdlphkmpkjdaaDoor
open Go.RowKit
set_option linter.unusedVariables false

def flW (f : Fl) : Nat := f.name.size
def tyW (t : Ty) : Nat := t.name.size + t.fields.length + (t.fields.map flW).sum
def roW (r : Ro) : Nat := r.name.size + r.params.length + r.results.length + r.code.length
def Mo.bulk (m : Mo) : Nat := m.types.length + m.texts.length + m.funcs.length + (m.types.map tyW).sum + (m.texts.map ByteArray.size).sum + (m.funcs.map roW).sum
def preS {α : Type} (f : α → Nat) (l : List α) (k : Nat) : Nat := ((l.take k).map f).sum
theorem preS_succ {α : Type} {f : α → Nat} {l : List α} {k : Nat} (z : α) (h : k < l.length) : preS f l (k + 1) = preS f l k + f (l.getD k z) := by
  unfold preS
  rw [List.take_succ_eq_append_getElem h, List.map_append, List.sum_append]
  simp [List.getD, h]
theorem preS_all {α : Type} (f : α → Nat) (l : List α) : preS f l l.length = (l.map f).sum := by unfold preS; rw [List.take_length]
theorem preS_zero {α : Type} (f : α → Nat) (l : List α) : preS f l 0 = 0 := by simp [preS]
/-- What Bulk answers: where it is no more than so many, the sum. -/
def BulkRet (m : Mo) (M : Int) (w : World) (e : Ending) (w' : World) : Prop := ∃ r : Int, e = .returned (.int .i64 r) ∧ (r ≤ M → (m.bulk : Int) ≤ M) ∧ Below w.heap.size w w'
structure BkR (N M : Int) (t : Nat) : Prop where
  lo : 0 ≤ N
  hi : N ≤ 1000000000000000
  eq : N ≤ M → N = (t : Int)
theorem own3b {w : World} {g : Nat} {a0 a1 a2 : Value} {t : TypeId} (h : Own w g #[a0, a1, a2] t) : w.cell? ⟨g, 0, none⟩ = some a0 ∧ w.cell? ⟨g, 1, none⟩ = some a1 ∧ w.cell? ⟨g, 2, none⟩ = some a2 := ⟨h.cell 0, h.cell 1, h.cell 2⟩
set_option maxHeartbeats 8000000 in
set_option maxRecDepth 100000 in
theorem kBulk_as {w : World} {A : MoP} (hA : MoIn w A) (M : Int) (hM0 : 0 ≤ M) (hM : M ≤ 100000) :
    Calls Tryd.prog 5 #[.agg A.cs, .int .i64 M] w (BulkRet A.mo M w) := by
  have o1 := Own.new w A.cs 29
  have hb0 := new_below w (.cells A.cs 29)
  have HA : Hid (∀ W, Below w.heap.size w W → MoIn W A) := fun W q => hA.below q
  have hn1 : A.tys.length ≤ 140737488355328 := hA.tmx
  have hn2 : A.txs.length ≤ 140737488355328 := hA.smx
  have hn3 : A.fns.length ≤ 140737488355328 := hA.fmx
  have HT : Hid (A.mo.bulk = A.tys.length + A.txs.length + A.fns.length + preS tyW (A.tys.map TyP.t) A.tys.length + preS ByteArray.size A.txs A.txs.length + preS roW (A.fns.map RoP.r) A.fns.length) := by
    unfold Hid Mo.bulk
    show (A.tys.map TyP.t).length + A.txs.length + (A.fns.map RoP.r).length + ((A.tys.map TyP.t).map tyW).sum + (A.txs.map ByteArray.size).sum + ((A.fns.map RoP.r).map roW).sum = _
    rw [← preS_all tyW, ← preS_all ByteArray.size, ← preS_all roW, List.length_map, List.length_map]
  unfold MoP.cs at *
  clear hA
  obtain ⟨n1, HN1⟩ : ∃ n, Hid (A.tys.length = n) := ⟨_, rfl⟩
  obtain ⟨n2, HN2⟩ : ∃ n, Hid (A.txs.length = n) := ⟨_, rfl⟩
  obtain ⟨n3, HN3⟩ : ∃ n, Hid (A.fns.length = n) := ⟨_, rfl⟩
  obtain ⟨at1, AT1⟩ : ∃ n, Hid (A.ta = n) := ⟨_, rfl⟩
  obtain ⟨as1, AS1⟩ : ∃ n, Hid (A.sa = n) := ⟨_, rfl⟩
  obtain ⟨af1, AF1⟩ : ∃ n, Hid (A.fa = n) := ⟨_, rfl⟩
  rw [HN1.out, HN2.out, HN3.out, AT1.out, AS1.out, AF1.out] at o1 hb0
  rw [HN1.out, HN2.out, HN3.out] at HT
  rw [HN1.out, HN2.out, HN3.out, AT1.out, AS1.out, AF1.out]
  rw [HN1.out] at hn1
  rw [HN2.out] at hn2
  rw [HN3.out] at hn3
  generalize A.tc = ac1 at *
  generalize A.sc = ac2 at *
  generalize A.fc = ac3 at *
  have HRET : Hid (∀ (r : Int) (w' : World), (r ≤ M → r = ((n1 + n2 + n3 + preS tyW (A.tys.map TyP.t) n1 + preS ByteArray.size A.txs n2 + preS roW (A.fns.map RoP.r) n3 : Nat) : Int)) → Below w.heap.size w w' → BulkRet A.mo M w (.returned (.int .i64 r)) w') := fun r w' h1 h2 => ⟨r, rfl, fun q => by rw [HT.out, ← h1 q]; exact q, h2⟩
  clear HT
  have i1 : (n1 : Int) ≤ 140737488355328 := by omega
  have i2 : (n2 : Int) ≤ 140737488355328 := by omega
  have i3 : (n3 : Int) ≤ 140737488355328 := by omega
  go_enter Tryd.func5, Tryd.ntmps5
  go_upto_region 1 with fail
  generalize w.alloc (.cells #[.slice at1 n1 ac1, .slice as1 n2 ac2, .slice af1 n3 ac3] 29) = w1 at *
  have HO1 : Hid (Own w1 w.heap.size #[.slice at1 n1 ac1, .slice as1 n2 ac2, .slice af1 n3 ac3] 29) := o1
  have HBE : Hid (Below w.heap.size w w1) := hb0
  obtain ⟨x0, x1, x2, xf⟩ := own3 o1
  clear o1 hb0
  go_upto_block 0 with fail
  go_cut [5, 6, 7] from 22 to 79 (fun nv _ _ wx => ∃ N : Int, nv = .int .i64 N ∧ BkR N M (n1 + n2 + n3 + preS tyW (A.tys.map TyP.t) n1) ∧ Below w1.heap.size w1 wx)
  case first =>
    clear HRET
    go_wp2_with fail
    go_loopg [5, 6] n1 (fun g nv iv wr => ∃ (k : Nat) (N : Int), k + g = n1 ∧ iv = .int .i64 (k : Int) ∧ nv = .int .i64 N ∧ BkR N M (n1 + n2 + n3 + preS tyW (A.tys.map TyP.t) k) ∧ Below w1.heap.size w1 wr)
    case atStart => exact ⟨0, _, by omega, rfl, rfl, ⟨by omega, by omega, fun _ => by rw [preS_zero]; omega⟩, Below.refl _ _⟩
    case round =>
      clear x0 x1 x2 xf
      obtain ⟨k, N, hk, rfl, rfl, hB, hbel⟩ := hrel
      have hbw := HBE.out.trans (hbel.mono HBE.out.size)
      obtain ⟨x0, x1, x2⟩ := own3b (HO1.out.below hbel)
      have hk0 : (0 : Int) ≤ (k : Int) := by omega
      by_cases hNM : N ≤ M
      · cases gk with
        | succ gq =>
          have hkx : k < A.tys.length := by rw [HN1.out]; omega
          obtain ⟨b1, o1, ha1, g1⟩ := (HA.out wr hbw).tyr.at hkx
          have hXi := (HA.out wr hbw).ty _ (getD_in (z := zTP) hkx)
          have hx0 : at1 = some ⟨b1, o1, none⟩ := by rw [← AT1.out]; exact ha1
          unfold tyF at g1
          have hstep : preS tyW (A.tys.map TyP.t) (k + 1) = preS tyW (A.tys.map TyP.t) k + tyW (A.tys.getD k zTP).t := by
            rw [preS_succ zTy (by rw [List.length_map]; exact hkx)]
            congr 2
            simp [List.getD, hkx]
          have hmem : A.tys.getD k zTP ∈ A.tys := getD_in hkx
          have HXI : Hid (∀ W, Below w.heap.size w W → TyIn W (A.tys.getD k zTP)) := fun W q => (HA.out W q).ty _ hmem
          have HD2 : Hid (∀ W, Below wr.heap.size wr W → W.cell? ⟨b1, o1 + k * 5 + 2, none⟩ = some (.slice (A.tys.getD k zTP).fa (A.tys.getD k zTP).t.fields.length (A.tys.getD k zTP).fc)) := fun W q => (q.cell (p := ⟨b1, o1 + k * 5 + 2, none⟩) (World.block_lt_of_cell? wr _ (g1 2 (by omega)))).trans (g1 2 (by omega))
          clear hmem
          generalize A.tys.getD k zTP = X at *
          have d1 : wr.cell? ⟨b1, o1 + k * 5 + 1, none⟩ = some (.string X.t.name) := g1 1 (by omega)
          have d2 : wr.cell? ⟨b1, o1 + k * 5 + 2, none⟩ = some (.slice X.fa X.t.fields.length X.fc) := g1 2 (by omega)
          have hsz : (X.t.name.size : Int) ≤ 140737488355328 := by have : X.t.name.size ≤ 140737488355328 := hXi.name; omega
          have hfl : (X.t.fields.length : Int) ≤ 140737488355328 := by have : X.t.fields.length ≤ 140737488355328 := hXi.mx; omega
          obtain ⟨t, HTT⟩ : ∃ t, Hid (n1 + n2 + n3 + preS tyW (A.tys.map TyP.t) k = t) := ⟨_, rfl⟩
          have HNt : Hid (N = (t : Int)) := by rw [Hid, ← HTT.out]; exact hB.eq hNM
          have HSTEP : Hid (n1 + n2 + n3 + preS tyW (A.tys.map TyP.t) (k + 1) = t + tyW X.t) := by rw [Hid, hstep, ← HTT.out]; omega
          have HTW : Hid (tyW X.t = X.t.name.size + X.t.fields.length + preS flW X.t.fields X.t.fields.length) := by rw [Hid, preS_all]; rfl
          have hki : (k : Int) < (n1 : Int) := by omega
          have hN0 : 0 ≤ N := hB.lo
          clear g1 hXi hstep hB ha1 HTT
          obtain ⟨F, HF⟩ : ∃ F, Hid (X.t.fields.length = F) := ⟨_, rfl⟩
          rw [HF.out] at d2 hfl HD2 HTW
          obtain ⟨Z, HZ⟩ : ∃ Z, Hid (X.t.name.size = Z) := ⟨_, rfl⟩
          rw [HZ.out] at hsz HTW
          have HBW : Hid (Below w.heap.size w wr) := hbw
          have HBL : Hid (Below w1.heap.size w1 wr) := hbel
          have hZ2 : X.t.name.size = Z := HZ.out
          clear hbw hbel
          subst hx0
          have HF2 : Hid (∀ j, j < F → (X.t.fields.getD j zFl).name.size ≤ 140737488355328) := fun j hj => ((HXI.out wr HBW.out).each _ (getD_in (by rw [HF.out]; exact hj))).1
          go_wp2_with fail
          go_quiet (fail)
          go_wp2_with fail
          generalize wr = wq at *
          go_loopg [5, 7] F (fun g2 nv jv wr2 => ∃ (k2 : Nat) (N2 : Int), k2 + g2 = F ∧ jv = .int .i64 (k2 : Int) ∧ nv = .int .i64 N2 ∧ BkR N2 M (t + Z + F + preS flW X.t.fields k2) ∧ Below wq.heap.size wq wr2)
          case atStart => exact ⟨0, _, by omega, rfl, rfl, ⟨by omega, by omega, fun _ => by rw [preS_zero]; have := HNt.out; omega⟩, below_drewN wq _⟩
          case round =>
            clear x0 x1 x2 d1 d2
            obtain ⟨k2, N2, hk2, rfl, rfl, hB2, hbel2⟩ := hrel
            have hbw2 := HBW.out.trans (hbel2.mono HBW.out.size)
            have hbl2 := HBL.out.trans (hbel2.mono HBL.out.size)
            obtain ⟨x0, x1, x2⟩ := own3b (HO1.out.below hbl2)
            have d2 := HD2.out wr hbel2
            have hk20 : (0 : Int) ≤ (k2 : Int) := by omega
            have HB2 : Hid (BkR N2 M (t + Z + F + preS flW X.t.fields k2)) := hB2
            have hN20 := hB2.lo
            have hN21 := hB2.hi
            have HEND : Hid ((N2 ≤ M → k2 = F) → BkR N2 M (n1 + n2 + n3 + preS tyW (A.tys.map TyP.t) (k + 1))) := fun q => ⟨hN20, hN21, fun q2 => by
              have h1 := hB2.eq q2
              rw [q q2] at h1
              rw [HSTEP.out, HTW.out, h1]; omega⟩
            clear hB2
            by_cases hNM2 : N2 ≤ M
            · cases gk with
              | succ gi =>
                have hkf : k2 < X.t.fields.length := by rw [HF.out]; omega
                obtain ⟨b3, o3, ha3, g3⟩ := (HXI.out wr hbw2).row.at hkf
                unfold flF at g3
                have d3 : wr.cell? ⟨b3, o3 + k2 * 2, none⟩ = some (.string (X.t.fields.getD k2 zFl).name) := g3 0 (by omega)
                have hs3 := HF2.out k2 (by omega)
                have hst : preS flW X.t.fields (k2 + 1) = preS flW X.t.fields k2 + (X.t.fields.getD k2 zFl).name.size := preS_succ (f := flW) zFl hkf
                clear g3
                generalize (X.t.fields.getD k2 zFl).name = s3 at *
                rw [ha3] at d2
                have hs3i : (s3.size : Int) ≤ 140737488355328 := by omega
                have HB3 : Hid (BkR (N2 + (s3.size : Int)) M (t + Z + F + preS flW X.t.fields (k2 + 1))) := ⟨by omega, by omega, fun _ => by have := HB2.out.eq hNM2; rw [hst]; omega⟩
                have hk2i : (k2 : Int) < (F : Int) := by omega
                clear HB2 HEND hst hs3 HXI HF2 HD2
                go_wp2
                go_roundg gi
                case measure => omega
                case rel => exact ⟨k2 + 1, _, by omega, by go_num, rfl, HB3.out, hbel2⟩
              | zero =>
                obtain rfl : k2 = F := by omega
                have HE : Hid (BkR N2 M (n1 + n2 + n3 + preS tyW (A.tys.map TyP.t) (k + 1))) := HEND.out (fun _ => rfl)
                clear HB2 HEND HXI HF2 HD2
                go_wp2
                go_roundg gq
                case measure => omega
                case rel => exact ⟨k + 1, _, by omega, by go_num, rfl, HE.out, hbl2⟩
            · have HE : Hid (BkR N2 M (n1 + n2 + n3 + preS tyW (A.tys.map TyP.t) (k + 1))) := HEND.out (fun q => absurd q hNM2)
              have hM2 : M < N2 := by omega
              clear HB2 HEND HXI HF2 HD2
              by_cases hkF : (k2 : Int) < (F : Int)
              · go_wp2
                go_roundg gq
                case measure => omega
                case rel => exact ⟨k + 1, _, by omega, by go_num, rfl, HE.out, hbl2⟩
              · go_wp2
                go_roundg gq
                case measure => omega
                case rel => exact ⟨k + 1, _, by omega, by go_num, rfl, HE.out, hbl2⟩
        | zero =>
          obtain rfl : k = n1 := by omega
          go_wp2_with fail
          go_meet
          exact ⟨N, rfl, hB, hbel⟩
      · have hM2 : M < N := by omega
        have HE : Hid (BkR N M (n1 + n2 + n3 + preS tyW (A.tys.map TyP.t) n1)) := ⟨hB.lo, hB.hi, fun q => absurd q hNM⟩
        clear hB
        by_cases hkF : (k : Int) < (n1 : Int)
        · go_wp2_with fail
          go_meet
          exact ⟨N, rfl, HE.out, hbel⟩
        · go_wp2_with fail
          go_meet
          exact ⟨N, rfl, HE.out, hbel⟩
  case rest =>
    obtain ⟨N, rfl, hB, hbel⟩ := hcut
    clear x0 x1 x2 xf
    obtain ⟨x0, x1, x2⟩ := own3b (HO1.out.below hbel)
    obtain ⟨T1, HT1⟩ : ∃ t, Hid (n1 + n2 + n3 + preS tyW (A.tys.map TyP.t) n1 = t) := ⟨_, rfl⟩
    rw [HT1.out] at hB HRET
    have HB : Hid (BkR N M T1) := hB
    have HBL : Hid (Below w1.heap.size w1 wc) := hbel
    clear hB hbel
    go_upto_block 4 with fail
    go_cut [5, 8] from 80 to 99 (fun nv _ wx => ∃ N : Int, nv = .int .i64 N ∧ BkR N M (T1 + preS ByteArray.size A.txs n2) ∧ Below w1.heap.size w1 wx)
    case first =>
      clear HRET
      go_wp2_with fail
      go_loopg [5, 8] n2 (fun g nv iv wr => ∃ (k : Nat) (N : Int), k + g = n2 ∧ iv = .int .i64 (k : Int) ∧ nv = .int .i64 N ∧ BkR N M (T1 + preS ByteArray.size A.txs k) ∧ Below w1.heap.size w1 wr)
      case atStart => exact ⟨0, N, by omega, rfl, rfl, by rw [preS_zero]; exact HB.out, HBL.out⟩
      case round =>
        clear x0 x1 x2
        obtain ⟨k, N, hk, rfl, rfl, hB, hbel⟩ := hrel
        have hbw := HBE.out.trans (hbel.mono HBE.out.size)
        obtain ⟨x0, x1, x2⟩ := own3b (HO1.out.below hbel)
        have hk0 : (0 : Int) ≤ (k : Int) := by omega
        have hN0 := hB.lo
        have hN1 := hB.hi
        by_cases hNM : N ≤ M
        · cases gk with
          | succ gq =>
            have hkx : k < A.txs.length := by rw [HN2.out]; omega
            obtain ⟨b1, o1, ha1, g1⟩ := (HA.out wr hbw).txr.at hkx
            have hXi : (A.txs.getD k ⟨#[]⟩).size ≤ 140737488355328 := (HA.out wr hbw).tx _ (getD_in hkx)
            have hx0 : as1 = some ⟨b1, o1, none⟩ := by rw [← AS1.out]; exact ha1
            have d1 : wr.cell? ⟨b1, o1 + k, none⟩ = some (.string (A.txs.getD k ⟨#[]⟩)) := by have := g1 0 (by omega); rw [Nat.mul_one] at this; exact this
            have hst := preS_succ (f := ByteArray.size) (⟨#[]⟩ : ByteArray) hkx
            clear g1 ha1
            generalize A.txs.getD k ⟨#[]⟩ = s3 at *
            have hs3i : (s3.size : Int) ≤ 140737488355328 := by omega
            have HB3 : Hid (BkR (N + (s3.size : Int)) M (T1 + preS ByteArray.size A.txs (k + 1))) := ⟨by omega, by omega, fun _ => by have := hB.eq hNM; rw [hst]; omega⟩
            have hki : (k : Int) < (n2 : Int) := by omega
            rw [hx0] at x1
            clear hB hst hXi hx0
            go_wp2
            go_roundg gq
            case measure => omega
            case rel => exact ⟨k + 1, _, by omega, by go_num, rfl, HB3.out, hbel⟩
          | zero =>
            obtain rfl : k = n2 := by omega
            go_wp2_with fail
            go_meet
            exact ⟨N, rfl, hB, hbel⟩
        · have hM2 : M < N := by omega
          have HE : Hid (BkR N M (T1 + preS ByteArray.size A.txs n2)) := ⟨hB.lo, hB.hi, fun q => absurd q hNM⟩
          clear hB
          by_cases hkF : (k : Int) < (n2 : Int)
          · go_wp2_with fail
            go_meet
            exact ⟨N, rfl, HE.out, hbel⟩
          · go_wp2_with fail
            go_meet
            exact ⟨N, rfl, HE.out, hbel⟩
    case rest =>
      clear x0 x1 x2 HB HBL
      obtain ⟨N, rfl, hB, hbel⟩ := hcut
      obtain ⟨x0, x1, x2⟩ := own3b (HO1.out.below hbel)
      obtain ⟨T2, HT2⟩ : ∃ t, Hid (T1 + preS ByteArray.size A.txs n2 = t) := ⟨_, rfl⟩
      rw [HT2.out] at hB HRET
      have HB : Hid (BkR N M T2) := hB
      have HBL : Hid (Below w1.heap.size w1 wc) := hbel
      clear hB hbel
      go_wp2_with fail
      go_loopg [5, 9] n3 (fun g nv iv wr => ∃ (k : Nat) (N : Int), k + g = n3 ∧ iv = .int .i64 (k : Int) ∧ nv = .int .i64 N ∧ BkR N M (T2 + preS roW (A.fns.map RoP.r) k) ∧ Below w1.heap.size w1 wr)
      case atStart => exact ⟨0, N, by omega, rfl, rfl, by rw [preS_zero]; exact HB.out, HBL.out⟩
      case round =>
        clear x0 x1 x2
        obtain ⟨k, N, hk, rfl, rfl, hB, hbel⟩ := hrel
        have hbw := HBE.out.trans (hbel.mono HBE.out.size)
        obtain ⟨x0, x1, x2⟩ := own3b (HO1.out.below hbel)
        have hk0 : (0 : Int) ≤ (k : Int) := by omega
        have hN0 := hB.lo
        have hN1 := hB.hi
        by_cases hNM : N ≤ M
        · cases gk with
          | succ gq =>
            have hkx : k < A.fns.length := by rw [HN3.out]; omega
            obtain ⟨b1, o1, ha1, g1⟩ := (HA.out wr hbw).fnr.at hkx
            have hXi := (HA.out wr hbw).fn _ (getD_in (z := zRP) hkx)
            have hx0 : af1 = some ⟨b1, o1, none⟩ := by rw [← AF1.out]; exact ha1
            unfold roF at g1
            have hst : preS roW (A.fns.map RoP.r) (k + 1) = preS roW (A.fns.map RoP.r) k + roW (A.fns.getD k zRP).r := by
              rw [preS_succ zRo (by rw [List.length_map]; exact hkx)]
              congr 2
              simp [List.getD, hkx]
            generalize A.fns.getD k zRP = X at *
            have d0 : wr.cell? ⟨b1, o1 + k * 6, none⟩ = some (.string X.r.name) := g1 0 (by omega)
            have d1 : wr.cell? ⟨b1, o1 + k * 6 + 1, none⟩ = some (.slice X.pa X.r.params.length X.pc) := g1 1 (by omega)
            have d2 : wr.cell? ⟨b1, o1 + k * 6 + 2, none⟩ = some (.slice X.ra X.r.results.length X.rc) := g1 2 (by omega)
            have d3 : wr.cell? ⟨b1, o1 + k * 6 + 3, none⟩ = some (.int .i64 X.r.locals) := g1 3 (by omega)
            have d4 : wr.cell? ⟨b1, o1 + k * 6 + 4, none⟩ = some (.int .i64 X.r.stack) := g1 4 (by omega)
            have d5 : wr.cell? ⟨b1, o1 + k * 6 + 5, none⟩ = some (.slice X.ca X.r.code.length X.cc) := g1 5 (by omega)
            have l0 : X.r.name.size ≤ 140737488355328 := hXi.name
            have l1 : X.r.params.length ≤ 140737488355328 := hXi.pmx
            have l2 : X.r.results.length ≤ 140737488355328 := hXi.rmx
            have l3 : X.r.code.length ≤ 140737488355328 := hXi.cmx
            have HB3 : Hid (BkR (N + (X.r.name.size : Int) + (X.r.params.length : Int) + (X.r.results.length : Int) + (X.r.code.length : Int)) M (T2 + preS roW (A.fns.map RoP.r) (k + 1))) := ⟨by omega, by omega, fun _ => by have := hB.eq hNM; have e : roW X.r = X.r.name.size + X.r.params.length + X.r.results.length + X.r.code.length := rfl; rw [hst, e]; omega⟩
            have hki : (k : Int) < (n3 : Int) := by omega
            rw [hx0] at x2
            clear hB hst hXi hx0 ha1 g1
            generalize X.r.name = s3 at *
            generalize X.r.params.length = p1 at *
            generalize X.r.results.length = p2 at *
            generalize X.r.code.length = p3 at *
            have j0 : (s3.size : Int) ≤ 140737488355328 := by omega
            have j1 : (p1 : Int) ≤ 140737488355328 := by omega
            have j2 : (p2 : Int) ≤ 140737488355328 := by omega
            have j3 : (p3 : Int) ≤ 140737488355328 := by omega
            clear l0 l1 l2 l3
            have hbelA := hbel.alloc hbel.size (.cells #[.string s3, .slice X.pa p1 X.pc, .slice X.ra p2 X.rc, .int .i64 X.r.locals, .int .i64 X.r.stack, .slice X.ca p3 X.cc] 59)
            go_wp2
            go_roundg gq
            case measure => omega
            case rel => exact ⟨k + 1, _, by omega, by go_num, rfl, HB3.out, hbelA⟩
          | zero =>
            obtain rfl : k = n3 := by omega
            have HZ := HRET.out N wr (fun q => by rw [hB.eq q]) hbw
            go_wp2
            go_ret
            exact HZ
        · have hM2 : M < N := by omega
          have HZ : Hid (BulkRet A.mo M w (.returned (.int .i64 N)) wr) := HRET.out N wr (fun q => absurd q hNM) hbw
          clear hB
          by_cases hkF : (k : Int) < (n3 : Int)
          · go_wp2
            go_ret
            exact HZ.out
          · go_wp2
            go_ret
            exact HZ.out
theorem sum_mem {α : Type} {f : α → Nat} {l : List α} {x : α} (h : x ∈ l) : f x ≤ (l.map f).sum := by
  induction l with
  | nil => cases h
  | cons y r ih =>
    rcases List.mem_cons.1 h with rfl | h
    · simp
    · have := ih h; simp; omega
/-- What a module of so many things and bytes has. -/
structure Small (A : MoP) (M : Nat) : Prop where
  ty : A.tys.length ≤ M
  tx : A.txs.length ≤ M
  fn : A.fns.length ≤ M
  fl : ∀ x ∈ A.tys, x.t.fields.length ≤ M
  ro : ∀ x ∈ A.fns, x.r.params.length ≤ M ∧ x.r.results.length ≤ M ∧ x.r.code.length ≤ M
theorem small_of {A : MoP} {M : Nat} (h : A.mo.bulk ≤ M) : Small A M := by
  unfold Mo.bulk at h
  have e1 : A.mo.types.length = A.tys.length := by simp [MoP.mo]
  have e2 : A.mo.texts.length = A.txs.length := rfl
  have e3 : A.mo.funcs.length = A.fns.length := by simp [MoP.mo]
  rw [e1, e2, e3] at h
  refine ⟨by omega, by omega, by omega, fun x hx => ?_, fun x hx => ?_⟩
  · have hm : x.t ∈ A.mo.types := List.mem_map.2 ⟨x, hx, rfl⟩
    have := sum_mem (f := tyW) hm
    unfold tyW at this h
    omega
  · have hm : x.r ∈ A.mo.funcs := List.mem_map.2 ⟨x, hx, rfl⟩
    have := sum_mem (f := roW) hm
    unfold roW at this h
    omega
end Go.Proofs.YtjfdlphkmpkjdaaDoor
