import Derived.Test.YtmhnbklchnnbaaaGreatDoorJPLow
import Derived.Maps.AppendAt
import Derived.Deep.Cut
import Derived.Deep.DeepCutAuto
set_option maxHeartbeats 1000000
set_option maxRecDepth 100000
namespace Go.Proofs.YtmhnbklchnnbaaaGreatDoor
open Go.RowKit
set_option linter.unusedVariables false
def KRow (w : World) (v : Value) (n : Nat) (xs : List Value) (F : List Nat) : Prop := xs.length = n * 5 ∧ ((v = .slice none 0 0 ∧ n = 0 ∧ F = []) ∨
  ∃ g cap cur, v = .slice (some ⟨g, 0, none⟩) n cap ∧ F = [g] ∧ Own w g cur 25 ∧ n ≤ cap ∧ cap ≤ maxLen ∧ cur.size = cap * 5 ∧ cur.toList.take (n * 5) = xs)
def Cells (w : World) : List Tree → List Value → List Nat → Prop
  | [], cs, F => cs = [] ∧ F = []
  | ⟨k, a, tx, n, ks⟩ :: ts, cs, F => ∃ v xs rest F0 F1 F2, cs = .int .u8 (k : Int) :: .int .i64 a :: .string (strN tx) :: .int .u64 (n : Int) :: v :: rest ∧ F = F0 ++ F1 ++ F2 ∧ KRow w v ks.length xs F0 ∧ Cells w ks xs F1 ∧ Cells w ts rest F2
theorem treeRec {M : List Tree → Prop} (h0 : M []) (h1 : ∀ k a t n ks ts, M ks → M ts → M (⟨k, a, t, n, ks⟩ :: ts)) (l : List Tree) : M l :=
  Tree.rec_1 (motive_1 := fun t => ∀ ts, M ts → M (t :: ts)) (motive_2 := M) (fun k a t n ks hk ts hts => h1 k a t n ks ts hk hts) h0 (fun t ts ht hts => ht ts hts) l
theorem cells_nil {w : World} {cs : List Value} {F : List Nat} : Cells w [] cs F ↔ cs = [] ∧ F = [] := by rw [Cells]
theorem cells_cons {w : World} {k : Nat} {a : Int} {tx : List Nat} {n : Nat} {ks ts : List Tree} {cs : List Value} {F : List Nat} : Cells w (⟨k, a, tx, n, ks⟩ :: ts) cs F ↔ ∃ v xs rest F0 F1 F2, cs = .int .u8 (k : Int) :: .int .i64 a :: .string (strN tx) :: .int .u64 (n : Int) :: v :: rest ∧ F = F0 ++ F1 ++ F2 ∧ KRow w v ks.length xs F0 ∧ Cells w ks xs F1 ∧ Cells w ts rest F2 := by rw [Cells]
theorem KRow.on {w w' : World} {v : Value} {n : Nat} {xs : List Value} {F : List Nat} (h : KRow w v n xs F) (hk : ∀ g ∈ F, ∀ cur, Own w g cur 25 → Own w' g cur 25) : KRow w' v n xs F := by
  obtain ⟨h1, h2⟩ := h
  refine ⟨h1, ?_⟩
  rcases h2 with h2 | ⟨g, cap, cur, rfl, rfl, ho, r⟩
  · exact .inl h2
  · exact .inr ⟨g, cap, cur, rfl, rfl, hk g (List.mem_singleton.2 rfl) cur ho, r⟩
theorem Cells.on {w w' : World} : ∀ (ts : List Tree) (cs : List Value) (F : List Nat), Cells w ts cs F → (∀ g ∈ F, ∀ cur, Own w g cur 25 → Own w' g cur 25) → Cells w' ts cs F := by
  intro ts
  induction ts using treeRec with
  | h0 => intro cs F h _; rw [cells_nil] at h ⊢; exact h
  | h1 k a t n ks ts ih1 ih2 =>
    intro cs F h hk
    rw [cells_cons] at h ⊢
    obtain ⟨v, xs, rest, F0, F1, F2, rfl, rfl, h1, h2, h3⟩ := h
    exact ⟨v, xs, rest, F0, F1, F2, rfl, rfl, h1.on fun g hg => hk g (by simp [hg]), ih1 xs F1 h2 fun g hg => hk g (by simp [hg]), ih2 rest F2 h3 fun g hg => hk g (by simp [hg])⟩
theorem Cells.lt {w : World} : ∀ (ts : List Tree) (cs : List Value) (F : List Nat), Cells w ts cs F → ∀ g ∈ F, g < w.heap.size := by
  intro ts
  induction ts using treeRec with
  | h0 => intro cs F h g hg; rw [cells_nil] at h; rw [h.2] at hg; cases hg
  | h1 k a t n ks ts ih1 ih2 =>
    intro cs F h g hg
    rw [cells_cons] at h
    obtain ⟨v, xs, rest, F0, F1, F2, rfl, rfl, h1, h2, h3⟩ := h
    simp only [List.mem_append] at hg
    rcases hg with (hg | hg) | hg
    · rcases h1.2 with ⟨_, _, rfl⟩ | ⟨g', cap, cur, rfl, rfl, ho, r⟩
      · cases hg
      · rw [List.mem_singleton.1 hg]; exact ho.lt
    · exact ih1 xs F1 h2 g hg
    · exact ih2 rest F2 h3 g hg
theorem Cells.length {w : World} : ∀ (ts : List Tree) (cs : List Value) (F : List Nat), Cells w ts cs F → cs.length = ts.length * 5 := by
  intro ts
  induction ts with
  | nil => intro cs F h; rw [cells_nil] at h; rw [h.1]; rfl
  | cons t ts ih =>
    intro cs F h
    obtain ⟨k, a, tx, n, ks⟩ := t
    rw [cells_cons] at h
    obtain ⟨v, xs, rest, F0, F1, F2, rfl, rfl, h1, h2, h3⟩ := h
    have := ih rest F2 h3
    simp only [List.length_cons]
    omega
theorem Cells.append {w : World} : ∀ (ts : List Tree) (cs : List Value) (F : List Nat), Cells w ts cs F → ∀ us ds G, Cells w us ds G → Cells w (ts ++ us) (cs ++ ds) (F ++ G) := by
  intro ts
  induction ts with
  | nil => intro cs F h us ds G h'; rw [cells_nil] at h; obtain ⟨rfl, rfl⟩ := h; exact h'
  | cons t ts ih =>
    intro cs F h us ds G h'
    obtain ⟨k, a, tx, n, ks⟩ := t
    rw [cells_cons] at h
    obtain ⟨v, xs, rest, F0, F1, F2, rfl, rfl, h1, h2, h3⟩ := h
    rw [List.cons_append, cells_cons]
    exact ⟨v, xs, rest ++ ds, F0, F1, F2 ++ G, by simp, by simp, h1, h2, ih rest F2 h3 us ds G h'⟩
def Row (w : World) (B : Nat) (v : Value) (ts : List Tree) : Prop := ∃ xs F0 F1, KRow w v ts.length xs F0 ∧ Cells w ts xs F1 ∧ (F0 ++ F1).Nodup ∧ ∀ g ∈ F0 ++ F1, B ≤ g
def NodeIs (w : World) (B : Nat) (t : Tree) (k a : Int) (b : ByteArray) (n : Int) (v : Value) : Prop := k = (t.kind : Int) ∧ a = t.at_ ∧ b = strN t.text ∧ n = (t.n : Int) ∧ Row w B v t.kids
theorem Row.nil (w : World) (B : Nat) : Row w B (.slice none 0 0) [] := ⟨[], [], [], ⟨rfl, .inl ⟨rfl, rfl, rfl⟩⟩, cells_nil.2 ⟨rfl, rfl⟩, by simp, by simp⟩
theorem KRow.lt {w : World} {v : Value} {n : Nat} {xs : List Value} {F : List Nat} (h : KRow w v n xs F) : ∀ g ∈ F, g < w.heap.size := by
  intro g hg
  rcases h.2 with ⟨_, _, rfl⟩ | ⟨g', cap, cur, rfl, rfl, ho, r⟩
  · cases hg
  · rw [List.mem_singleton.1 hg]; exact ho.lt
theorem Row.on {w w' : World} {B : Nat} {v : Value} {ts : List Tree} (h : Row w B v ts) (hk : ∀ g, B ≤ g → ∀ cur, Own w g cur 25 → Own w' g cur 25) : Row w' B v ts := by
  obtain ⟨xs, F0, F1, h1, h2, h3, h4⟩ := h
  exact ⟨xs, F0, F1, h1.on fun g hg => hk g (h4 g (by simp [hg])), Cells.on _ _ _ h2 fun g hg => hk g (h4 g (by simp [hg])), h3, h4⟩
theorem Row.mono {w : World} {B B' : Nat} {v : Value} {ts : List Tree} (h : Row w B v ts) (hB : B' ≤ B) : Row w B' v ts := by
  obtain ⟨xs, F0, F1, h1, h2, h3, h4⟩ := h
  exact ⟨xs, F0, F1, h1, h2, h3, fun g hg => Nat.le_trans hB (h4 g hg)⟩
theorem Row.kp {w w' : World} {B r : Nat} {v : Value} {ts : List Tree} (h : Row w B v ts) (hk : Kp r w w') (hr : r < B) : Row w' B v ts := h.on fun g hg cur ho => ho.kp hk (by omega)
theorem Row.below {w w' : World} {B : Nat} {v : Value} {ts : List Tree} (h : Row w B v ts) (hk : Below w.heap.size w w') : Row w' B v ts := h.on fun g hg cur ho => ho.below hk
theorem Row.alloc {w : World} {B : Nat} {v : Value} {ts : List Tree} (h : Row w B v ts) (o : Obj) : Row (w.alloc o) B v ts := h.on fun g hg cur ho => ho.alloc o
theorem Row.drew {w : World} {B : Nat} {v : Value} {ts : List Tree} (h : Row w B v ts) : Row w.drew B v ts := h.on fun g hg cur ho => ho.drew
theorem Row.set {w : World} {B g i : Nat} {v : Value} {ts : List Tree} (h : Row w B v ts) (hg : g < B) (u : Value) : Row (w.setCell ⟨g, i, none⟩ u) B v ts := h.on fun b hb cur ho => ho.other (by omega) u
theorem Row.set5 {w : World} {B g : Nat} {v : Value} {ts : List Tree} (h : Row w B v ts) (hg : g < B) (b0 b1 b2 b3 b4 : Value) :
    Row (((((w.setCell ⟨g, 0, none⟩ b0).setCell ⟨g, 1, none⟩ b1).setCell ⟨g, 2, none⟩ b2).setCell ⟨g, 3, none⟩ b3).setCell ⟨g, 4, none⟩ b4) B v ts := ((((h.set hg b0).set hg b1).set hg b2).set hg b3).set hg b4
theorem NodeIs.row {w w' : World} {B B' : Nat} {t : Tree} {k a : Int} {b : ByteArray} {n : Int} {v : Value} (h : NodeIs w B t k a b n v) (hr : Row w B v t.kids → Row w' B' v t.kids) : NodeIs w' B' t k a b n v := ⟨h.1, h.2.1, h.2.2.1, h.2.2.2.1, hr h.2.2.2.2⟩
theorem NodeIs.cells {w : World} {B : Nat} {t : Tree} {k a : Int} {b : ByteArray} {n : Int} {v : Value} (h : NodeIs w B t k a b n v) : ∃ F, Cells w [t] [.int .u8 k, .int .i64 a, .string b, .int .u64 n, v] F ∧ F.Nodup ∧ ∀ g ∈ F, B ≤ g := by
  obtain ⟨kk, aa, tx, nn, ks⟩ := t
  obtain ⟨rfl, rfl, rfl, rfl, xs, F0, F1, h1, h2, h3, h4⟩ := h
  exact ⟨F0 ++ F1, cells_cons.2 ⟨v, xs, [], F0, F1, [], rfl, by simp, h1, h2, cells_nil.2 ⟨rfl, rfl⟩⟩, h3, h4⟩
theorem nodup_apart {F G : List Nat} {s : Nat} (hF : F.Nodup) (hG : G.Nodup) (h1 : ∀ g ∈ F, g < s) (h2 : ∀ g ∈ G, s ≤ g) : (F ++ G).Nodup := by
  rw [List.nodup_append]
  exact ⟨hF, hG, fun a ha b hb e => by have := h1 a ha; have := h2 b hb; omega⟩
theorem Row.of {w : World} {B : Nat} {ts : List Tree} {cs : Array Value} {F : List Nat} (h : Cells w ts cs.toList F) (hn : F.Nodup) (hF : ∀ g ∈ F, B ≤ g) (hB : B ≤ w.heap.size) (m : Nat) (hm : ts.length = m) (hmax : m ≤ maxLen) :
    Row (w.alloc (.cells cs 25)) B (.slice (some ⟨w.heap.size, 0, none⟩) m m) ts := by
  have hl := Cells.length _ _ _ h
  rw [Array.length_toList] at hl
  have hlt := Cells.lt _ _ _ h
  refine ⟨cs.toList, [w.heap.size], F, ⟨by rw [Array.length_toList]; exact hl, .inr ⟨w.heap.size, m, cs, by rw [hm], rfl, Own.new w cs 25, by omega, hmax, by rw [hl, hm], ?_⟩⟩, Cells.on _ _ _ h fun g hg cur ho => ho.alloc _, ?_, ?_⟩
  · rw [List.take_of_length_le (by rw [Array.length_toList]; omega)]
  · rw [List.singleton_append, List.nodup_cons]
    exact ⟨fun q => by have := hlt _ q; omega, hn⟩
  · intro g hg
    rw [List.singleton_append, List.mem_cons] at hg
    rcases hg with rfl | hg
    · exact hB
    · exact hF g hg
theorem Row.one {w : World} {B C : Nat} {t : Tree} {k a : Int} {b : ByteArray} {n : Int} {v : Value} (h : NodeIs w B t k a b n v) (hC : C ≤ B) (hC2 : C ≤ w.heap.size) : Row (w.alloc (.cells #[.int .u8 k, .int .i64 a, .string b, .int .u64 n, v] 25)) C (.slice (some ⟨w.heap.size, 0, none⟩) 1 1) [t] := by
  obtain ⟨F, h1, h2, h3⟩ := h.cells
  exact Row.of h1 h2 (fun g hg => Nat.le_trans hC (h3 g hg)) hC2 1 rfl (by unfold maxLen; omega)
theorem infoN : (Tryz.prog.info? 25).map (fun i => (i.zero, i.size, i.bytes)) = some (some (.agg #[.int .u8 0, .int .i64 0, .string ⟨#[]⟩, .int .u64 0, .slice none 0 0]), 5, 64) := by kernel_rfl
theorem Row.own {w : World} {B : Nat} {v : Value} {ts : List Tree} (h : Row w B v ts) : ∃ xs F1, w.ownsRow B 25 5 v ts.length xs ∧ Cells w ts xs F1 ∧ F1.Nodup ∧ (∀ g ∈ F1, B ≤ g) ∧ (∀ g ∈ F1, some g ≠ v.ownBlock) := by
  obtain ⟨xs, F0, F1, h1, h2, h3, h4⟩ := h
  rw [List.nodup_append] at h3
  refine ⟨xs, F1, ⟨h1.1, ?_⟩, h2, h3.2.1, fun g hg => h4 g (by simp [hg]), fun g hg => ?_⟩
  · rcases h1.2 with ⟨rfl, h5, rfl⟩ | ⟨g, cap, cur, rfl, rfl, ho, r1, r2, r3, r4⟩
    · exact .inl ⟨rfl, h5⟩
    · exact .inr ⟨g, cap, cur, rfl, h4 g (by simp), ho, r1, r2, r3, r4⟩
  · rcases h1.2 with ⟨rfl, h5, rfl⟩ | ⟨g', cap, cur, rfl, rfl, ho, r⟩
    · simp [Value.ownBlock]
    · intro e
      have e' : g = g' := by simpa [Value.ownBlock] using e
      exact h3.2.2 g' (by simp) g hg e'.symm
theorem own_row {w : World} {B : Nat} {v : Value} {ts : List Tree} {xs : List Value} {F1 : List Nat} (h : w.ownsRow B 25 5 v ts.length xs) (h2 : Cells w ts xs F1) (h3 : F1.Nodup) (h4 : ∀ g ∈ F1, B ≤ g) (h5 : ∀ g ∈ F1, some g ≠ v.ownBlock) : Row w B v ts := by
  rcases h.2 with ⟨rfl, h0⟩ | ⟨g, cap, cur, rfl, hg, ho, r1, r2, r3, r4⟩
  · exact ⟨xs, [], F1, ⟨h.1, .inl ⟨rfl, h0, rfl⟩⟩, h2, by simpa using h3, by simpa using h4⟩
  · refine ⟨xs, [g], F1, ⟨h.1, .inr ⟨g, cap, cur, rfl, rfl, ho, r1, r2, r3, r4⟩⟩, h2, ?_, ?_⟩
    · rw [List.singleton_append, List.nodup_cons]
      exact ⟨fun q => h5 g q (by simp [Value.ownBlock]), h3⟩
    · intro b hb
      rw [List.singleton_append, List.mem_cons] at hb
      rcases hb with rfl | hb
      · exact hg
      · exact h4 b hb
theorem wpList_appN {W : World} {ops : Array Oper} {rest : List Oper} {o : Oper} {a : Act} {Q : Exit → Act → World → Prop} (hgd : o.guard = none) (s x : Operand)
    (ho : o.op = .call { callee := .builtin .append, args := #[s, x], argTypes := #[23, 23] })
    (B : Nat) (v : Value) (ts : List Tree) (hs : a.eval s = v) (W0 : World) (hrow0 : Row W0 B v ts) (hkeep : ∀ (g : Nat) (cur : Array Value), B ≤ g → Own W0 g cur 25 → Own W g cur 25) (us : List Tree) (m c : Nat) (hm : us.length = m)
    (b : Nat) (hx : a.eval x = .slice (some ⟨b, 0, none⟩) m c) (cs : Array Value) (hb : Own W b cs 25) (hcs : ∃ F, Cells W us (cs.toList.take (m * 5)) F ∧ F.Nodup ∧ (∀ g ∈ F, W0.heap.size ≤ g))
    (h63 : ts.length + m ≤ 1000000000) (hbase : B ≤ W0.heap.size) (hsz : W0.heap.size ≤ W.heap.size)
    (h : ∀ v' w', Row w' B v' (ts ++ us) → W.grownBy w' v.ownBlock → (∀ k, v.ownBlock = some k → B ≤ k ∧ k < W0.heap.size) → wpList Tryz.prog ops Q rest (a.put o.dst v') w') :
    wpList Tryz.prog ops Q (o :: rest) a W := by
  obtain ⟨i8, hi, hz0, hz1, hz2⟩ := info_parts infoN
  obtain ⟨xs, F1, hown0, hc0, hn, hF, hne⟩ := hrow0.own
  obtain ⟨F, k1, k2, k3⟩ := hcs
  have hlt0 := Cells.lt _ _ _ hc0
  have hc : Cells W ts xs F1 := Cells.on _ _ _ hc0 fun g hg cur ho => hkeep g cur (hF g hg) ho
  have hown : W.ownsRow B 25 5 v ts.length xs := by
    refine ⟨hown0.1, ?_⟩
    rcases hown0.2 with q | ⟨g, cap, cur, rfl, hg, ho, r⟩
    · exact .inl q
    · exact .inr ⟨g, cap, cur, rfl, hg, hkeep g cur hg ho, r⟩
  have k4 : ∀ g ∈ F, some g ≠ v.ownBlock := fun g hg e => by have := (hown0.lt g e.symm).2; have := k3 g hg; omega
  refine wpList_append_own_at _ hgd s x 23 ho B 25 i8 _ 5 64 Tryz.underlying23 hi hz0 hz1 hz2 rfl (by omega) v ts.length xs hs hown ⟨b, 0, none⟩ m c (cs.toList.take (m * 5)) hx (by rw [Cells.length _ _ _ k1, hm]) ?_ ?_ (by unfold maxLen; omega) (by omega) (Nat.le_trans hbase hsz) ?_
  · intro j u hu
    rw [List.getElem?_take] at hu
    have hj : j < m * 5 := by
      refine Classical.byContradiction fun q => ?_
      rw [if_neg q] at hu; cases hu
    rw [if_pos hj] at hu
    have hadd : (⟨b, 0, none⟩ : Addr).add j = ⟨b, j, none⟩ := by unfold Addr.add; split <;> simp_all
    rw [hadd, cell_of_row _ b j _ 25 _ hb]
    simpa using hu
  · have : ∀ (us : List Tree) (ys : List Value) (F : List Nat), Cells W us ys F → ∀ u ∈ ys, u.oneCell' = true := by
      intro us
      induction us with
      | nil => intro ys F h u hu; rw [cells_nil] at h; rw [h.1] at hu; cases hu
      | cons t ts ih =>
        intro ys F h u hu
        obtain ⟨k, a, tx, n, ks⟩ := t
        rw [cells_cons] at h
        obtain ⟨v, xs, rest, F0, F1, F2, rfl, rfl, h1, h2, h3⟩ := h
        simp only [List.mem_cons] at hu
        rcases hu with rfl | rfl | rfl | rfl | rfl | hu
        · rfl
        · rfl
        · rfl
        · rfl
        · rcases h1.2 with ⟨rfl, _, _⟩ | ⟨g, cap, cur, rfl, _⟩ <;> rfl
        · exact ih rest F2 h3 u hu
    exact this _ _ _ k1
  · intro v' w' h1 h2 _ h4
    have e : ts.length + m = (ts ++ us).length := by rw [List.length_append, hm]
    rw [e] at h1
    have hk : ∀ g, g < W.heap.size → some g ≠ v.ownBlock → ∀ cur, Own W g cur 25 → Own w' g cur 25 := fun g hg hne cur ho => (h2.block g hg hne).trans ho
    have hlt1 := Cells.lt _ _ _ hc
    have hlt2 := Cells.lt _ _ _ k1
    refine h v' w' (own_row h1 (Cells.append _ _ _ (Cells.on _ _ _ hc fun g hg => hk g (hlt1 g hg) (hne g hg)) _ _ _ (Cells.on _ _ _ k1 fun g hg => hk g (hlt2 g hg) (k4 g hg))) (nodup_apart hn k2 hlt0 k3) ?_ ?_) h2 (fun k hk => hown0.lt k hk)
    · intro g hg
      rcases List.mem_append.1 hg with hg | hg
      · exact hF g hg
      · exact Nat.le_trans hbase (k3 g hg)
    · intro g hg e'
      have hcases : some g ≠ v.ownBlock ∧ g < W.heap.size := by
        rcases List.mem_append.1 hg with hg | hg
        · exact ⟨hne g hg, hlt1 g hg⟩
        · exact ⟨k4 g hg, hlt2 g hg⟩
      rcases h4 with h4 | h4
      · exact hcases.1 (e'.trans h4)
      · rw [h4] at e'
        have := Option.some.inj e'
        omega
def NodeRet (w : World) (r E d : Nat) (t : Tree) (s' : St) (en : Ending) (w' : World) : Prop := ∃ k a b n v, en = .returned (.agg #[.int .u8 k, .int .i64 a, .string b, .int .u64 n, v]) ∧ NodeIs w' w.heap.size t k a b n v ∧ RdAt w' r E d s' ∧ Kp r w w'
def ListRet (w : World) (r E d : Nat) (ts : List Tree) (s' : St) (en : Ending) (w' : World) : Prop := ∃ v, en = .returned v ∧ Row w' w.heap.size v ts ∧ RdAt w' r E d s' ∧ Kp r w w'
def PartAs (fn : Nat) (m : P Tree) (c : Nat) : Prop := ∀ (w : World) (r E d : Nat) (s : St) (t : Tree) (s' : St), RdAt w r E d s → E ≤ 1048576 → d + c ≤ 1000000000 → m E d s = some (t, s') → Calls Tryz.prog fn #[.pointer (some ⟨r, 0, none⟩)] w (NodeRet w r E d t s')
def ListAs (fn : Nat) (m : P (List Tree)) (c : Nat) : Prop := ∀ (w : World) (r E d : Nat) (s : St) (ts : List Tree) (s' : St), RdAt w r E d s → E ≤ 1048576 → d + c ≤ 1000000000 → m E d s = some (ts, s') → Calls Tryz.prog fn #[.pointer (some ⟨r, 0, none⟩)] w (ListRet w r E d ts s')
theorem bnd_some {A C : Type} {m : P A} {f : A → P C} {E d : Nat} {s : St} {c : C} {s' : St} (h : bnd m f E d s = some (c, s')) : ∃ a s1, m E d s = some (a, s1) ∧ f a E d s1 = some (c, s') := by
  unfold bnd at h
  match hm : m E d s, h with
  | some (a, s1), h => exact ⟨a, s1, rfl, h⟩
theorem ret_some {A : Type} {a c : A} {E d : Nat} {s s' : St} (h : ret a E d s = some (c, s')) : a = c ∧ s = s' := by
  unfold ret at h
  cases h
  exact ⟨rfl, rfl⟩
theorem look_some {A : Type} {f : Tok → P A} {E d : Nat} {s : St} {c : A} {s' : St} (h : look f E d s = some (c, s')) : f (nxt E s) E d s = some (c, s') := h
theorem take_some {E d : Nat} {s s' : St} {t : Tok} (h : takeT E d s = some (t, s')) : nxt E s = t ∧ popS s = s' := by
  unfold takeT at h
  cases h
  exact ⟨rfl, rfl⟩
theorem pwhole_as : PartAs 99 wholeP 0 := by
  intro w r E d s t s' hR hE hd hm
  obtain ⟨tk, s1, h1, h2⟩ := bnd_some hm
  obtain ⟨rfl, rfl⟩ := ret_some h2
  obtain ⟨q, hq⟩ : ∃ q, nu (nxt E s) = q := ⟨_, rfl⟩
  have hn : needT q E d s = some (tk, s1) := by rw [← hq]; exact h1
  obtain ⟨k, tx, nn, a, e, ht⟩ := tokIs tk
  have hrl := hR.lt
  have hK := Kp.refl r w
  clear hm h1 h2
  go_enter Tryz.func99, Tryz.ntmps99
  go_upto_region 1 with fail
  have hzo := hR.lt
  have hko := hK.size
  have o := Own.new w #[.int .u8 0, .int .i64 0, .string ⟨#[]⟩, .int .u64 0, .slice none 0 0] 25
  replace hR := hR.alloc (.cells #[.int .u8 0, .int .i64 0, .string ⟨#[]⟩, .int .u64 0, .slice none 0 0] 25)
  replace hK := hK.alloc (.cells #[.int .u8 0, .int .i64 0, .string ⟨#[]⟩, .int .u64 0, .slice none 0 0] 25)
  generalize hw : w.alloc (.cells #[.int .u8 0, .int .i64 0, .string ⟨#[]⟩, .int .u64 0, .slice none 0 0] 25) = w1 at hR hK o ⊢
  clear hw
  have hlo := o.lt
  go_wp2_with fail
  refine (pnumber_as hR hE q hq).mono ?_
  rintro en w2 ⟨rfl, hR2, hb⟩
  replace o := (o).below hb
  replace hK := (hK).trans (Kp.of hb)
  replace hR := hR2
  clear hb hR2
  clear hq
  go_wp2_with fail
  refine (pneed_as hR hE q hn ht).mono ?_
  rintro en w3 ⟨rfl, hR2, hK2⟩
  replace o := (o).kp hK2 (by omega)
  replace hK := (hK).trans hK2
  replace hR := hR2
  clear hK2 hR2
  clear hn
  go_upto_region 2 with fail
  have hzp := hR.lt
  have hkp := hK.size
  have p := Own.new w3 #[.int .u8 k, .string tx, .int .u64 nn, .int .i64 a, .int .i64 e] 77
  replace hR := hR.alloc (.cells #[.int .u8 k, .string tx, .int .u64 nn, .int .i64 a, .int .i64 e] 77)
  replace hK := hK.alloc (.cells #[.int .u8 k, .string tx, .int .u64 nn, .int .i64 a, .int .i64 e] 77)
  replace o := o.alloc (.cells #[.int .u8 k, .string tx, .int .u64 nn, .int .i64 a, .int .i64 e] 77)
  generalize hw : w3.alloc (.cells #[.int .u8 k, .string tx, .int .u64 nn, .int .i64 a, .int .i64 e] 77) = w4 at hR hK p o ⊢
  clear hw
  have hlp := p.lt
  obtain ⟨p0, p1, p2, p3, p4, pf⟩ := p.five
  obtain ⟨o0, o1, o2, o3, o4, of⟩ := o.five
  go_wp2
  refine bodyPost_cell1 (t := 25) rfl rfl rfl (o.set5 _ _ _ _ _) Tryz.underlying25 rfl (by kernel_rfl) ?_
  exact ⟨_, _, _, _, _, rfl, ⟨rfl, ht.2.2.2.1, ht.2.1, ht.2.2.1, Row.nil _ _⟩, hR.set5 (by omega) _ _ _ _ _, hK.set5 (.inl (by omega)) _ _ _ _ _⟩
theorem pusedName_as : PartAs 123 usedP 0 := by
  intro w r E d s t s' hR hE hd hm
  obtain ⟨tk, s1, h1, h2⟩ := bnd_some hm
  obtain ⟨rfl, rfl⟩ := ret_some h2
  obtain ⟨q, hq⟩ : ∃ q, nm (nxt E s) = q := ⟨_, rfl⟩
  have hn : needT q E d s = some (tk, s1) := by rw [← hq]; exact h1
  obtain ⟨k, tx, nn, a, e, ht⟩ := tokIs tk
  have hrl := hR.lt
  have hK := Kp.refl r w
  clear hm h1 h2
  go_enter Tryz.func123, Tryz.ntmps123
  go_upto_region 1 with fail
  have hzo := hR.lt
  have hko := hK.size
  have o := Own.new w #[.int .u8 0, .int .i64 0, .string ⟨#[]⟩, .int .u64 0, .slice none 0 0] 25
  replace hR := hR.alloc (.cells #[.int .u8 0, .int .i64 0, .string ⟨#[]⟩, .int .u64 0, .slice none 0 0] 25)
  replace hK := hK.alloc (.cells #[.int .u8 0, .int .i64 0, .string ⟨#[]⟩, .int .u64 0, .slice none 0 0] 25)
  generalize hw : w.alloc (.cells #[.int .u8 0, .int .i64 0, .string ⟨#[]⟩, .int .u64 0, .slice none 0 0] 25) = w1 at hR hK o ⊢
  clear hw
  have hlo := o.lt
  go_wp2_with fail
  refine (pname_as hR hE q hq).mono ?_
  rintro en w2 ⟨rfl, hR2, hb⟩
  replace o := (o).below hb
  replace hK := (hK).trans (Kp.of hb)
  replace hR := hR2
  clear hb hR2
  clear hq
  go_wp2_with fail
  refine (pneed_as hR hE q hn ht).mono ?_
  rintro en w3 ⟨rfl, hR2, hK2⟩
  replace o := (o).kp hK2 (by omega)
  replace hK := (hK).trans hK2
  replace hR := hR2
  clear hK2 hR2
  clear hn
  go_upto_region 2 with fail
  have hzp := hR.lt
  have hkp := hK.size
  have p := Own.new w3 #[.int .u8 k, .string tx, .int .u64 nn, .int .i64 a, .int .i64 e] 77
  replace hR := hR.alloc (.cells #[.int .u8 k, .string tx, .int .u64 nn, .int .i64 a, .int .i64 e] 77)
  replace hK := hK.alloc (.cells #[.int .u8 k, .string tx, .int .u64 nn, .int .i64 a, .int .i64 e] 77)
  replace o := o.alloc (.cells #[.int .u8 k, .string tx, .int .u64 nn, .int .i64 a, .int .i64 e] 77)
  generalize hw : w3.alloc (.cells #[.int .u8 k, .string tx, .int .u64 nn, .int .i64 a, .int .i64 e] 77) = w4 at hR hK p o ⊢
  clear hw
  have hlp := p.lt
  obtain ⟨p0, p1, p2, p3, p4, pf⟩ := p.five
  obtain ⟨o0, o1, o2, o3, o4, of⟩ := o.five
  go_wp2
  refine bodyPost_cell1 (t := 25) rfl rfl rfl (o.set5 _ _ _ _ _) Tryz.underlying25 rfl (by kernel_rfl) ?_
  exact ⟨_, _, _, _, _, rfl, ⟨rfl, ht.2.2.2.1, ht.2.1, rfl, Row.nil _ _⟩, hR.set5 (by omega) _ _ _ _ _, hK.set5 (.inl (by omega)) _ _ _ _ _⟩
theorem pnewName_as : PartAs 134 newP 0 := by
  intro w r E d s t s' hR hE hd hm
  obtain ⟨tk, s1, h1, h2⟩ := bnd_some hm
  obtain ⟨rfl, rfl⟩ := ret_some h2
  obtain ⟨q, hq⟩ : ∃ q, nm (nxt E s) = q := ⟨_, rfl⟩
  have hn : needT q E d s = some (tk, s1) := by rw [← hq]; exact h1
  obtain ⟨k, tx, nn, a, e, ht⟩ := tokIs tk
  have hrl := hR.lt
  have hK := Kp.refl r w
  clear hm h1 h2
  go_enter Tryz.func134, Tryz.ntmps134
  go_upto_region 1 with fail
  have hzo := hR.lt
  have hko := hK.size
  have o := Own.new w #[.int .u8 0, .int .i64 0, .string ⟨#[]⟩, .int .u64 0, .slice none 0 0] 25
  replace hR := hR.alloc (.cells #[.int .u8 0, .int .i64 0, .string ⟨#[]⟩, .int .u64 0, .slice none 0 0] 25)
  replace hK := hK.alloc (.cells #[.int .u8 0, .int .i64 0, .string ⟨#[]⟩, .int .u64 0, .slice none 0 0] 25)
  generalize hw : w.alloc (.cells #[.int .u8 0, .int .i64 0, .string ⟨#[]⟩, .int .u64 0, .slice none 0 0] 25) = w1 at hR hK o ⊢
  clear hw
  have hlo := o.lt
  go_wp2_with fail
  refine (pname_as hR hE q hq).mono ?_
  rintro en w2 ⟨rfl, hR2, hb⟩
  replace o := (o).below hb
  replace hK := (hK).trans (Kp.of hb)
  replace hR := hR2
  clear hb hR2
  clear hq
  go_wp2_with fail
  refine (pneed_as hR hE q hn ht).mono ?_
  rintro en w3 ⟨rfl, hR2, hK2⟩
  replace o := (o).kp hK2 (by omega)
  replace hK := (hK).trans hK2
  replace hR := hR2
  clear hK2 hR2
  clear hn
  go_upto_region 2 with fail
  have hzp := hR.lt
  have hkp := hK.size
  have p := Own.new w3 #[.int .u8 k, .string tx, .int .u64 nn, .int .i64 a, .int .i64 e] 77
  replace hR := hR.alloc (.cells #[.int .u8 k, .string tx, .int .u64 nn, .int .i64 a, .int .i64 e] 77)
  replace hK := hK.alloc (.cells #[.int .u8 k, .string tx, .int .u64 nn, .int .i64 a, .int .i64 e] 77)
  replace o := o.alloc (.cells #[.int .u8 k, .string tx, .int .u64 nn, .int .i64 a, .int .i64 e] 77)
  generalize hw : w3.alloc (.cells #[.int .u8 k, .string tx, .int .u64 nn, .int .i64 a, .int .i64 e] 77) = w4 at hR hK p o ⊢
  clear hw
  have hlp := p.lt
  obtain ⟨p0, p1, p2, p3, p4, pf⟩ := p.five
  obtain ⟨o0, o1, o2, o3, o4, of⟩ := o.five
  go_wp2
  refine bodyPost_cell1 (t := 25) rfl rfl rfl (o.set5 _ _ _ _ _) Tryz.underlying25 rfl (by kernel_rfl) ?_
  exact ⟨_, _, _, _, _, rfl, ⟨rfl, ht.2.2.2.1, ht.2.1, rfl, Row.nil _ _⟩, hR.set5 (by omega) _ _ _ _ _, hK.set5 (.inl (by omega)) _ _ _ _ _⟩
theorem run_store1 {w : World} {g : Nat} {cs : Array Value} {t : TypeId} (h : Own w g cs t) (i : Nat) (hi : i < cs.size) (b : Value) (hb : b.oneCell' = true) : (store ⟨g, i, none⟩ b).run Tryz.prog w = .ok () (w.setCell ⟨g, i, none⟩ b) := by
  have hc : w.cell? ⟨g, i, none⟩ = some cs[i] := by rw [cell_of_row _ g i _ _ _ h]; exact Array.getElem?_eq_getElem hi
  have hf : w.frozen? ⟨g, i, none⟩ = false := by unfold Own at h; simp [World.frozen?, h]
  rw [run_store Tryz.prog w _ b _ hb]
  simp [hc, hf]
theorem wpList_put5 {W : World} {ops : Array Oper} {rest : List Oper} {o : Oper} {a : Act} {Q : Exit → Act → World → Prop} (hgd : o.guard = none) (x y : Operand) (ho : o.op = .store 25 x y) (hdst : o.dst = none) (g : Nat) (hx : a.eval x = .pointer (some ⟨g, 0, none⟩))
    {b0 b1 b2 b3 b4 : Value} (hy : a.eval y = .agg #[b0, b1, b2, b3, b4]) {a0 a1 a2 a3 a4 : Value} {t : TypeId} (hown : Own W g #[a0, a1, a2, a3, a4] t) (hb : b0.oneCell' = true ∧ b1.oneCell' = true ∧ b2.oneCell' = true ∧ b3.oneCell' = true ∧ b4.oneCell' = true)
    (h : ∀ w', Own w' g #[b0, b1, b2, b3, b4] t → W.grownBy w' (some g) → wpList Tryz.prog ops Q rest a w') : wpList Tryz.prog ops Q (o :: rest) a W := by
  have s0 : Own _ g #[b0, a1, a2, a3, a4] t := hown.set 0 b0
  have s1 : Own _ g #[b0, b1, a2, a3, a4] t := s0.set 1 b1
  have s2 : Own _ g #[b0, b1, b2, a3, a4] t := s1.set 2 b2
  have s3 : Own _ g #[b0, b1, b2, b3, a4] t := s2.set 3 b3
  have s4 : Own _ g #[b0, b1, b2, b3, b4] t := s3.set 4 b4
  have r0 := run_store1 hown 0 (by simp) b0 hb.1
  have r1 := run_store1 s0 1 (by simp) b1 hb.2.1
  have r2 := run_store1 s1 2 (by simp) b2 hb.2.2.1
  have r3 := run_store1 s2 3 (by simp) b3 hb.2.2.2.1
  have r4 := run_store1 s3 4 (by simp) b4 hb.2.2.2.2
  have hgr : W.grownBy (((((W.setCell ⟨g, 0, none⟩ b0).setCell ⟨g, 1, none⟩ b1).setCell ⟨g, 2, none⟩ b2).setCell ⟨g, 3, none⟩ b3).setCell ⟨g, 4, none⟩ b4) (some g) := (Kp.refl g W).set5 (.inr rfl) b0 b1 b2 b3 b4
  refine wpList_plain hgd fun K hK => ?_
  unfold Oper.wp execOp
  simp only [ho, hx, hy]
  simp [go_sem]
  rw [r0]
  simp only [Result.andThen_ok]
  rw [r1]
  simp only [Result.andThen_ok]
  rw [r2]
  simp only [Result.andThen_ok]
  rw [r3]
  simp only [Result.andThen_ok]
  rw [r4]
  simp only [Result.andThen_ok]
  rw [Oper.upon_skip]
  have hp : a.put o.dst undef = a := by rw [hdst]; rfl
  rw [hp]
  exact hK _ _ (h _ s4 hgr)
theorem wpList_put1nodes {W : World} {ops : Array Oper} {rest : List Oper} {o : Oper} {a : Act} {Q : Exit → Act → World → Prop} (hgd : o.guard = none) (x y : Operand) (ho : o.op = .store 23 x y) (hdst : o.dst = none) (g i : Nat) (hx : a.eval x = .pointer (some ⟨g, i, none⟩))
    {ao : Option Addr} {m c : Nat} (hy : a.eval y = (.slice ao m c)) {cs : Array Value} {t : TypeId} (hown : Own W g cs t) (hi : i < cs.size)
    (h : ∀ w', Own w' g (cs.setIfInBounds i (.slice ao m c)) t → W.grownBy w' (some g) → wpList Tryz.prog ops Q rest a w') : wpList Tryz.prog ops Q (o :: rest) a W := by
  have s0 := hown.set i (.slice ao m c)
  have hgr : W.grownBy (W.setCell ⟨g, i, none⟩ (.slice ao m c)) (some g) := (Kp.refl g W).set (.inr rfl) i (.slice ao m c)
  have hc : W.cell? ⟨g, i, none⟩ = some cs[i] := by rw [cell_of_row _ g i _ _ _ hown]; exact Array.getElem?_eq_getElem hi
  have hf : W.frozen? ⟨g, i, none⟩ = false := by unfold Own at hown; simp [World.frozen?, hown]
  refine wpList_plain hgd fun K hK => ?_
  unfold Oper.wp execOp
  simp only [ho, hx, hy]
  simp [go_sem, hc, hf, hdst]
  exact hK _ _ (h _ s0 hgr)
theorem wpList_put1u8 {W : World} {ops : Array Oper} {rest : List Oper} {o : Oper} {a : Act} {Q : Exit → Act → World → Prop} (hgd : o.guard = none) (x y : Operand) (ho : o.op = .store 5 x y) (hdst : o.dst = none) (g i : Nat) (hx : a.eval x = .pointer (some ⟨g, i, none⟩))
    {z : Int} (hy : a.eval y = (.int .u8 z)) {cs : Array Value} {t : TypeId} (hown : Own W g cs t) (hi : i < cs.size)
    (h : ∀ w', Own w' g (cs.setIfInBounds i (.int .u8 z)) t → W.grownBy w' (some g) → wpList Tryz.prog ops Q rest a w') : wpList Tryz.prog ops Q (o :: rest) a W := by
  have s0 := hown.set i (.int .u8 z)
  have hgr : W.grownBy (W.setCell ⟨g, i, none⟩ (.int .u8 z)) (some g) := (Kp.refl g W).set (.inr rfl) i (.int .u8 z)
  have hc : W.cell? ⟨g, i, none⟩ = some cs[i] := by rw [cell_of_row _ g i _ _ _ hown]; exact Array.getElem?_eq_getElem hi
  have hf : W.frozen? ⟨g, i, none⟩ = false := by unfold Own at hown; simp [World.frozen?, hown]
  refine wpList_plain hgd fun K hK => ?_
  unfold Oper.wp execOp
  simp only [ho, hx, hy]
  simp [go_sem, hc, hf, hdst]
  exact hK _ _ (h _ s0 hgr)
theorem wpList_put1u64 {W : World} {ops : Array Oper} {rest : List Oper} {o : Oper} {a : Act} {Q : Exit → Act → World → Prop} (hgd : o.guard = none) (x y : Operand) (ho : o.op = .store 22 x y) (hdst : o.dst = none) (g i : Nat) (hx : a.eval x = .pointer (some ⟨g, i, none⟩))
    {z : Int} (hy : a.eval y = (.int .u64 z)) {cs : Array Value} {t : TypeId} (hown : Own W g cs t) (hi : i < cs.size)
    (h : ∀ w', Own w' g (cs.setIfInBounds i (.int .u64 z)) t → W.grownBy w' (some g) → wpList Tryz.prog ops Q rest a w') : wpList Tryz.prog ops Q (o :: rest) a W := by
  have s0 := hown.set i (.int .u64 z)
  have hgr : W.grownBy (W.setCell ⟨g, i, none⟩ (.int .u64 z)) (some g) := (Kp.refl g W).set (.inr rfl) i (.int .u64 z)
  have hc : W.cell? ⟨g, i, none⟩ = some cs[i] := by rw [cell_of_row _ g i _ _ _ hown]; exact Array.getElem?_eq_getElem hi
  have hf : W.frozen? ⟨g, i, none⟩ = false := by unfold Own at hown; simp [World.frozen?, hown]
  refine wpList_plain hgd fun K hK => ?_
  unfold Oper.wp execOp
  simp only [ho, hx, hy]
  simp [go_sem, hc, hf, hdst]
  exact hK _ _ (h _ s0 hgr)
theorem wpList_put1str {W : World} {ops : Array Oper} {rest : List Oper} {o : Oper} {a : Act} {Q : Exit → Act → World → Prop} (hgd : o.guard = none) (x y : Operand) (ho : o.op = .store 9 x y) (hdst : o.dst = none) (g i : Nat) (hx : a.eval x = .pointer (some ⟨g, i, none⟩))
    {z : ByteArray} (hy : a.eval y = (.string z)) {cs : Array Value} {t : TypeId} (hown : Own W g cs t) (hi : i < cs.size)
    (h : ∀ w', Own w' g (cs.setIfInBounds i (.string z)) t → W.grownBy w' (some g) → wpList Tryz.prog ops Q rest a w') : wpList Tryz.prog ops Q (o :: rest) a W := by
  have s0 := hown.set i (.string z)
  have hgr : W.grownBy (W.setCell ⟨g, i, none⟩ (.string z)) (some g) := (Kp.refl g W).set (.inr rfl) i (.string z)
  have hc : W.cell? ⟨g, i, none⟩ = some cs[i] := by rw [cell_of_row _ g i _ _ _ hown]; exact Array.getElem?_eq_getElem hi
  have hf : W.frozen? ⟨g, i, none⟩ = false := by unfold Own at hown; simp [World.frozen?, hown]
  refine wpList_plain hgd fun K hK => ?_
  unfold Oper.wp execOp
  simp only [ho, hx, hy]
  simp [go_sem, hc, hf, hdst]
  exact hK _ _ (h _ s0 hgr)
theorem Row.shape {w : World} {B : Nat} {v : Value} {ts : List Tree} (h : Row w B v ts) : ∃ ao cap, v = .slice ao ts.length cap := by
  obtain ⟨xs, F0, F1, h1, _⟩ := h
  rcases h1.2 with ⟨rfl, h0, _⟩ | ⟨g, cap, cur, rfl, _⟩
  · exact ⟨none, 0, by rw [h0]⟩
  · exact ⟨_, _, rfl⟩
theorem Row.one1 {w : World} {B : Nat} {v : Value} {ts : List Tree} (h : Row w B v ts) : v.oneCell' = true := by
  obtain ⟨xs, F0, F1, h1, _⟩ := h
  rcases h1.2 with ⟨rfl, _⟩ | ⟨g, cap, cur, rfl, _⟩ <;> rfl
theorem Own.grown {w w' : World} {g : Nat} {cs : Array Value} {t : TypeId} {row : Option Nat} (h : Own w g cs t) (hg : w.grownBy w' row) (hne : some g ≠ row) : Own w' g cs t := (hg.block g h.lt hne).trans h
theorem Row.grown {w w' : World} {B k : Nat} {v : Value} {ts : List Tree} (h : Row w B v ts) (hg : w.grownBy w' (some k)) (hk : k < B) : Row w' B v ts := h.on fun g hgB cur ho => ho.grown hg (by intro e; have := Option.some.inj e; omega)
theorem some_ne {a b : Nat} (h : a ≠ b) : some a ≠ some b := fun e => h (Option.some.inj e)
theorem some_lt {r k : Nat} (h : r < k) : ∀ j, some k = some j → r < j := fun j e => by rw [← Option.some.inj e]; exact h
theorem some_le {r k : Nat} (h : r ≤ k) : ∀ j, some k = some j → r ≤ j := fun j e => by rw [← Option.some.inj e]; exact h
end Go.Proofs.YtmhnbklchnnbaaaGreatDoor
