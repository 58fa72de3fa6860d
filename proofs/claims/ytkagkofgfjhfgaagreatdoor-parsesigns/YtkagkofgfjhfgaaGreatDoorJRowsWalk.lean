/-
  Texts joined: RowsKit, RowsWalk.
-/
import Derived.Test.YtkagkofgfjhfgaaGreatDoorKShift2
import Derived.Test.YtkagkofgfjhfgaaGreatDoorGood
import Derived.Test.YtkagkofgfjhfgaaGreatDoorJRowsMath
import Derived.Test.YtkagkofgfjhfgaaGreatDoorJAll
import Derived.Laws.AppendOwnNone

/-
  APPEND OF A ROW TO A ROW; what else the walk of ParseRows needs.
-/
namespace Go.Proofs.YtkagkofgfjhfgaaGreatDoor
open Go.RowKit
set_option linter.unusedVariables false

theorem wpList_appRow {W : World} {ops : Array Oper} {rest : List Oper} {o : Oper} {a : Act} {Q : Exit → Act → World → Prop} (hgd : o.guard = none) (s x : Operand)
    (ho : o.op = .call { callee := .builtin .append, args := #[s, x], argTypes := #[23, 23] })
    (R : Nat → Prop) (v : Value) (ts : List Tree) (hs : a.eval s = v) (W0 : World) (hrow0 : RowQ W0 R v ts) (hkeep : ∀ (g : Nat) (cur : Array Value), R g → Own W0 g cur 25 → Own W g cur 25)
    (u : Value) (us : List Tree) (hx : a.eval x = u) (Wu : World) (Bu : Nat) (hu : Row Wu Bu u us) (hku : ∀ (g : Nat) (cur : Array Value), Bu ≤ g → Own Wu g cur 25 → Own W g cur 25) (hFR : ∀ g, Bu ≤ g → g < Wu.heap.size → W0.heap.size ≤ g ∧ R g)
    (h63 : ts.length + us.length ≤ 1000000000) (hsz : W0.heap.size ≤ W.heap.size) (hR : R W.heap.size)
    (h : ∀ v' w', RowQ w' R v' (ts ++ us) → W.grownBy w' v.ownBlock → (∀ k, v.ownBlock = some k → R k ∧ k < W0.heap.size) → (v'.ownBlock = v.ownBlock ∨ v'.ownBlock = some W.heap.size) → wpList Tryz.prog ops Q rest (a.put o.dst v') w') :
    wpList Tryz.prog ops Q (o :: rest) a W := by
  obtain ⟨xs, F0, F1, h1, h2, h3, h4⟩ := hu
  rcases h1.2 with ⟨rfl, h0, _⟩ | ⟨g, cap, cur, rfl, hF, hg, r1, r2, r3, r4⟩
  · obtain rfl : us = [] := List.eq_nil_of_length_eq_zero h0
    obtain ⟨i8, hi, hz0, hz1, hz2⟩ := info_parts infoN
    obtain ⟨ys, G1, hown0, hc0, hn, hG, hne, hkq⟩ := hrow0.own
    have hown : W.ownsRow 0 25 5 v ts.length ys := by
      refine ⟨hown0.1, ?_⟩
      rcases hown0.2 with q | ⟨g, cap, cur, rfl, hg, ho, r⟩
      · exact .inl q
      · exact .inr ⟨g, cap, cur, rfl, hg, hkeep g cur (hkq g (by simp [Value.ownBlock])) ho, r⟩
    refine wpList_append_own_none hgd s x 23 ho 0 25 i8 5 Tryz.underlying23 hi v ts.length ys hs hown hx ?_
    exact h v W (by rw [List.append_nil]; exact hrow0.on fun g hg cur ho => hkeep g cur hg ho) ⟨rfl, rfl, rfl, Nat.le_refl _, fun _ _ _ => rfl⟩ (fun k hk => ⟨hkq k hk, (hown0.lt k hk).2⟩) (.inl rfl)
  · subst hF
    have hgB : Bu ≤ g := h4 g (by simp)
    have hgW := hku g cur hgB hg
    rw [List.nodup_append] at h3
    have hlt1 := Cells.lt _ _ _ h2
    obtain ⟨v', w', hr, q1, q2, q3, q4⟩ := run_appQ W o.type R v ts W0 hrow0 hkeep us us.length cap rfl g 0 xs.toArray (fun j y hy => by
      rw [Nat.zero_add, cell_of_row _ g j _ 25 _ hgW]
      have hy' : xs[j]? = some y := by simpa using hy
      rw [← r4, List.getElem?_take] at hy'
      split at hy'
      · simpa using hy'
      · cases hy') ⟨F1, by simpa using Cells.on _ _ _ h2 fun g' hg' cur' ho => hku g' cur' (h4 g' (by simp [hg'])) ho, h3.2.1, fun g' hg' => hFR g' (h4 g' (by simp [hg'])) (hlt1 g' hg')⟩ h63 hsz hR
    refine wpList_plain hgd fun K hK => ?_
    unfold Oper.wp execOp
    simp only [ho, resolve, invoke, builtin, Sem.run_bind, Sem.run_pure, Result.andThen_ok, List.map_toArray, List.map_cons, List.map_nil, hs, hx, hr]
    exact hK _ _ (h v' w' q1 q2 q3 q4)
theorem RowQ.rd {w : World} {Q : Nat → Prop} {v : Value} {ts : List Tree} (h : RowQ w Q v ts) : KidsR w v ts := (RowQ.row (B := 0) (h.imp fun g _ _ => Nat.zero_le g)).rd
theorem RowQ.shape {w : World} {Q : Nat → Prop} {v : Value} {ts : List Tree} (h : RowQ w Q v ts) : ∃ ao cap, v = .slice ao ts.length cap := (RowQ.row (B := 0) (h.imp fun g _ _ => Nat.zero_le g)).shape
theorem read_enz {m : P Tree} {l : List Nat} {p e : Nat} (h : readS m l = some (.error (p, e))) : e ≠ 0 := by
  unfold readS at h
  cases ht : tokens l with
  | error x => obtain ⟨p', e'⟩ := x; rw [ht] at h; cases h; exact tokens_enz _ _ _ ht
  | ok ts =>
    rw [ht] at h
    have h : readP m l.length ts = some (.error (p, e)) := h
    unfold readP at h
    match hm : m l.length 0 ⟨ts, 0, 0⟩, h with
    | some (n, s), h =>
      have h := Option.some.inj h
      simp only [] at h
      generalize (if s.rest.isEmpty = true then s else refS l.length s) = s1 at h
      split at h
      · cases h
      · rename_i hw
        cases h
        exact hw
theorem bytesN_app2 (a b : ByteArray) : bytesN (a ++ b) = bytesN a ++ bytesN b := by
  unfold bytesN; simp
end Go.Proofs.YtkagkofgfjhfgaaGreatDoor

/-
  THE WALK of ParseRows: two programs one behind the other.
-/
namespace Go.Proofs.YtkagkofgfjhfgaaGreatDoor
open Go.RowKit
set_option linter.unusedVariables false

set_option maxRecDepth 100000 in
set_option maxHeartbeats 8000000 in
theorem parseRows_walk (a b : ByteArray) (w : World) (hmaxa : a.size ≤ maxLen) (hmaxb : b.size ≤ maxLen) (HL : Hid (Laid w)) : Calls Tryz.prog 4 #[.string a, .string b] w fun e w' => e = .returned (.bool true) ∧ Below w.heap.size w w' := by
  have hma : a.size ≤ 9223372036854775807 := hmaxa
  have hmb : b.size ≤ 9223372036854775807 := hmaxb
  clear hmaxa hmaxb
  by_cases hA : 4096 < a.size
  · have hA2 : (4096 : Int) < (a.size : Int) := by omega
    go_enter Tryz.func4, Tryz.ntmps4
    go_wp2
    go_ret
    exact ⟨rfl, Below.refl _ _⟩
  · by_cases hB : 4096 < b.size
    · have hA2 : ¬ (4096 : Int) < (a.size : Int) := by omega
      have hB2 : (4096 : Int) < (b.size : Int) := by omega
      go_enter Tryz.func4, Tryz.ntmps4
      go_wp2
      go_ret
      exact ⟨rfl, Below.refl _ _⟩
    · have hA2 : ¬ (4096 : Int) < (a.size : Int) := by omega
      have hB2 : ¬ (4096 : Int) < (b.size : Int) := by omega
      have hA3 : a.size ≤ 4096 := by omega
      have hB3 : b.size ≤ 4096 := by omega
      clear hA hB hma hmb
      obtain ⟨TA, hTA⟩ := src_some (bytesN a) (bytesN_lt a)
      obtain ⟨TB, hTB⟩ := src_some (bytesN b) (bytesN_lt b)
      have HTA : Hid (readS (programP fuelN) (bytesN a) = some TA) := hTA
      have HTB : Hid (readS (programP fuelN) (bytesN b) = some TB) := hTB
      clear hTA hTB
      go_enter Tryz.func4, Tryz.ntmps4
      go_wp2_with fail
      refine (source_is a (by omega) TA HTA w HL.out).mono ?_
      rintro en w1 ⟨hb1, hr1⟩
      have hL1 := HL.out.on hb1
      cases TA with
      | error x =>
        obtain ⟨p, e⟩ := x
        obtain rfl : en = .returned (.tuple #[.agg #[.int .u8 0, .int .i64 0, .string ⟨#[]⟩, .int .u64 0, .slice none 0 0], .int .i64 (p : Int), .int .i64 (e : Int)]) := hr1
        have hne : ((e : Int) != 0) = true := by have := read_enz HTA.out; simp; omega
        go_wp2_with fail
        have hL2 : Laid (w1.alloc (.cells #[.int .u8 0, .int .i64 0, .string ⟨#[]⟩, .int .u64 0, .slice none 0 0] 25)) := hL1.on ((Below.refl _ _).alloc (Nat.le_refl _) _)
        refine (source_is b (by omega) TB HTB _ hL2).mono ?_
        rintro en w2 ⟨hb2, hr2⟩
        have hbA : Below w.heap.size w w2 := hb1.trans ((((Below.refl _ _).alloc (Nat.le_refl _) _).trans (hb2.mono (by rw [World.size_alloc]; omega))).mono hb1.size)
        have hLw2 := hL2.on hb2
        have key : ∀ (k x : Int) (s : ByteArray) (n : Int) (ao : Option Addr) (mm cap : Nat), Hid (Laid (w2.alloc (.cells #[.int .u8 k, .int .i64 x, .string s, .int .u64 n, .slice ao mm cap] 25))) := fun _ _ _ _ _ _ _ => hLw2.on ((Below.refl _ _).alloc (Nat.le_refl _) _)
        cases TB with
        | error x =>
          obtain ⟨p', e'⟩ := x
          obtain rfl : en = .returned (.tuple #[.agg #[.int .u8 0, .int .i64 0, .string ⟨#[]⟩, .int .u64 0, .slice none 0 0], .int .i64 (p' : Int), .int .i64 (e' : Int)]) := hr2
          go_wp2_with fail
          refine (works_any _ (key _ _ _ _ _ _ _)).mono ?_
          rintro en w3 ⟨rfl, hb3⟩
          go_wp2
          go_ret
          exact ⟨rfl, (hbA.alloc hbA.size _).trans (hb3.mono (by rw [World.size_alloc]; have := hbA.size; omega))⟩
        | ok y =>
          obtain ⟨k, x, s, n, v, rfl, hN⟩ : ∃ k x s n v, en = .returned (.tuple #[.agg #[.int .u8 k, .int .i64 x, .string s, .int .u64 n, v], .int .i64 0, .int .i64 0]) ∧ NodeIs w2 _ y k x s n v := hr2
          obtain ⟨ao, cap, rfl⟩ := hN.q.shape
          go_wp2_with fail
          refine (works_any _ (key _ _ _ _ _ _ _)).mono ?_
          rintro en w3 ⟨rfl, hb3⟩
          go_wp2
          go_ret
          exact ⟨rfl, (hbA.alloc hbA.size _).trans (hb3.mono (by rw [World.size_alloc]; have := hbA.size; omega))⟩
      | ok x =>
        obtain ⟨k1, x1, s1, n1, v1, rfl, hN1⟩ : ∃ k x' s n v, en = .returned (.tuple #[.agg #[.int .u8 k, .int .i64 x', .string s, .int .u64 n, v], .int .i64 0, .int .i64 0]) ∧ NodeIs w1 _ x k x' s n v := hr1
        obtain ⟨ao1, cap1, rfl⟩ := hN1.q.shape
        go_wp2_with fail
        have hL2 : Laid (w1.alloc (.cells #[.int .u8 k1, .int .i64 x1, .string s1, .int .u64 n1, .slice ao1 x.kids.length cap1] 25)) := hL1.on ((Below.refl _ _).alloc (Nat.le_refl _) _)
        refine (source_is b (by omega) TB HTB _ hL2).mono ?_
        rintro en w2 ⟨hb2, hr2⟩
        have o1 := (Own.new w1 #[.int .u8 k1, .int .i64 x1, .string s1, .int .u64 n1, .slice ao1 x.kids.length cap1] 25).below hb2
        have hb12 : Below w1.heap.size w1 w2 := ((Below.refl _ _).alloc (Nat.le_refl _) _).trans (hb2.mono (by rw [World.size_alloc]; omega))
        have hbA : Below w.heap.size w w2 := hb1.trans (hb12.mono hb1.size)
        have hLw2 := hL2.on hb2
        cases TB with
        | error x' =>
          obtain ⟨p', e'⟩ := x'
          obtain rfl : en = .returned (.tuple #[.agg #[.int .u8 0, .int .i64 0, .string ⟨#[]⟩, .int .u64 0, .slice none 0 0], .int .i64 (p' : Int), .int .i64 (e' : Int)]) := hr2
          have hne : ((e' : Int) != 0) = true := by have := read_enz HTB.out; simp; omega
          go_wp2_with fail
          refine (works_any _ (hLw2.on ((Below.refl _ _).alloc (Nat.le_refl _) _))).mono ?_
          rintro en w3 ⟨rfl, hb3⟩
          go_wp2
          go_ret
          exact ⟨rfl, (hbA.alloc hbA.size _).trans (hb3.mono (by rw [World.size_alloc]; have := hbA.size; omega))⟩
        | ok y =>
          obtain ⟨k2, x2, s2, n2, v2, rfl, hN2⟩ : ∃ k x s n v, en = .returned (.tuple #[.agg #[.int .u8 k, .int .i64 x, .string s, .int .u64 n, v], .int .i64 0, .int .i64 0]) ∧ NodeIs w2 _ y k x s n v := hr2
          obtain ⟨ao2, cap2, rfl⟩ := hN2.q.shape
          obtain ⟨hrd, hyk, hxk⟩ := rows_math (bytesN a) (bytesN b) (by rw [bytesN_length]; exact hA3) (by rw [bytesN_length]; exact hB3) x y HTA.out HTB.out
          have hgx := read_good program_good (bytesN_lt a) HTA.out
          have hgy := read_good program_good (bytesN_lt b) HTB.out
          have hwr := rows_wrap (bytesN b) (by rw [bytesN_length]; exact hB3) (a.size + 1) (by omega) y HTB.out
          rw [bytesN_length] at hrd
          have hsrc : bytesN (a ++ ⟨#[10]⟩ ++ b) = bytesN a ++ 10 :: bytesN b := by rw [bytesN_app2, bytesN_app2]; simp [bytesN]
          have HRD : Hid (readS (programP fuelN) (bytesN (a ++ ⟨#[10]⟩ ++ b)) = some (.ok ⟨1, 0, [], 0, x.kids ++ y.kids.map (mapTr fun p => p + ((a.size + 1 : Nat) : Int))⟩)) := by unfold Hid; rw [hsrc]; exact hrd
          have hsize : (a ++ (⟨#[10]⟩ : ByteArray) ++ b).size = a.size + 1 + b.size := by rw [ByteArray.size_append, ByteArray.size_append]; rfl
          have HWR : Hid (y.kids.map (mapTr (shf 0 ((a.size : Int) + 1))) = y.kids.map (mapTr fun p => p + ((a.size + 1 : Nat) : Int))) := by
            unfold Hid
            rw [← hwr]
            rfl
          have HGY : Hid (goodTr y) := hgy
          obtain ⟨_, hgxl, _⟩ := (good_parts x).1 hgx
          obtain ⟨_, hgyl, _⟩ := (good_parts y).1 hgy
          have HYK : Hid (y = ⟨1, 0, [], 0, y.kids⟩) := hyk
          clear hrd hsrc hwr hgx hgy HTA HTB hyk hxk
          have hsz10 : (⟨#[10]⟩ : ByteArray).size = 1 := rfl
          go_wp2_with fail
          obtain ⟨nT, hnT⟩ : ∃ nT : Tree, nT = ⟨1, 0, [], 0, x.kids ++ y.kids.map (mapTr fun p => p + ((a.size + 1 : Nat) : Int))⟩ := ⟨_, rfl⟩
          have HNT : Hid (nT = ⟨1, 0, [], 0, x.kids ++ y.kids.map (mapTr fun p => p + ((a.size + 1 : Nat) : Int))⟩) := hnT
          rw [← hnT] at HRD
          clear hnT
          have hL3 : Laid (w2.alloc (.cells #[.int .u8 k2, .int .i64 x2, .string s2, .int .u64 n2, .slice ao2 y.kids.length cap2] 25)) := hLw2.on ((Below.refl _ _).alloc (Nat.le_refl _) _)
          refine (source_is _ (by rw [hsize]; omega) _ HRD _ hL3).mono ?_
          rintro en w3 ⟨hb3, hr3⟩
          obtain ⟨k3, x3, s3, n3, v3, rfl, hN3⟩ : ∃ k x s n v, en = .returned (.tuple #[.agg #[.int .u8 k, .int .i64 x, .string s, .int .u64 n, v], .int .i64 0, .int .i64 0]) ∧ NodeIs w3 _ nT k x s n v := hr3
          obtain ⟨ao3, cap3, rfl⟩ := hN3.q.shape
          have hLw3 := hL3.on hb3
          have hb23 : Below w2.heap.size w2 w3 := ((Below.refl _ _).alloc (Nat.le_refl _) _).trans (hb3.mono (by rw [World.size_alloc]; omega))
          have o2 := (Own.new w2 #[.int .u8 k2, .int .i64 x2, .string s2, .int .u64 n2, .slice ao2 y.kids.length cap2] 25).below hb3
          replace o1 := o1.below hb23
          have hs1 := hb1.size
          have hs12 := hb12.size
          have hs23 := hb23.size
          have hl1 := o1.lt
          have hl2 := o2.lt
          have hb13 : Below w1.heap.size w1 w3 := hb12.trans (hb23.mono hs12)
          have hbB : Below w.heap.size w w3 := hbA.trans (hb23.mono hbA.size)
          have HR3 : Hid (NodeR w3 nT k3 x3 s3 n3 (.slice ao3 nT.kids.length cap3)) := hN3.rd
          have HR2 : Hid (NodeR w2 y k2 x2 s2 n2 (.slice ao2 y.kids.length cap2)) := hN2.rd
          have hrow1 := hN1.2.2.2.2
          obtain ⟨nl, hnl⟩ : ∃ nl, nT.kids.length = nl := ⟨_, rfl⟩
          rw [hnl] at HR3
          rw [hnl]
          clear hN1 hN2 hN3 hb2 hb3 hL2 hL3 hb1 hb12 hbA hL1 hLw2 hnl HRD
          obtain ⟨W4, hW4⟩ : ∃ W4, W4 = ((w3.alloc (.cells #[.int .u8 k3, .int .i64 x3, .string s3, .int .u64 n3, .slice ao3 nl cap3] 25)).alloc (.cells #[.int .u8 1, .int .i64 0, .string ⟨#[]⟩, .int .u64 0, .slice none 0 0] 25)) := ⟨_, rfl⟩
          have hb34 : Below w3.heap.size w3 W4 := by rw [hW4]; exact ((Below.refl _ _).alloc (Nat.le_refl _) _).alloc (by rw [World.size_alloc]; omega) _
          have hs34 : w3.heap.size + 2 = W4.heap.size := by rw [hW4, World.size_alloc, World.size_alloc]
          have o3 : Own W4 w3.heap.size #[.int .u8 k3, .int .i64 x3, .string s3, .int .u64 n3, .slice ao3 nl cap3] 25 := by rw [hW4]; exact (Own.new w3 _ _).alloc _
          have ow : Own W4 (w3.heap.size + 1) #[.int .u8 1, .int .i64 0, .string ⟨#[]⟩, .int .u64 0, .slice none 0 0] 25 := by rw [hW4]; have := Own.new (w3.alloc (.cells #[.int .u8 k3, .int .i64 x3, .string s3, .int .u64 n3, .slice ao3 nl cap3] 25)) #[.int .u8 1, .int .i64 0, .string ⟨#[]⟩, .int .u64 0, .slice none 0 0] 25; rw [World.size_alloc] at this; exact this
          have hb14 : Below w1.heap.size w1 W4 := hb13.trans (hb34.mono (by omega))
          have o2X := o2.below hb34
          have hb24 : Below w2.heap.size w2 W4 := hb23.trans (hb34.mono hs23)
          have hb04 : Below w.heap.size w W4 := hbB.trans (hb34.mono hbB.size)
          obtain ⟨p0, p1, p2, p3, p4, pf1⟩ := o1.five
          have hnil : RowQ { W4 with heap := #[] } (fun g => w.heap.size ≤ g ∧ g ≠ w3.heap.size + 1 ∧ g ≠ w3.heap.size) (.slice none 0 0) [] := ⟨[], [], [], ⟨rfl, .inl ⟨rfl, rfl, rfl⟩⟩, cells_nil.2 ⟨rfl, rfl⟩, by simp, by simp⟩
          have hkn : ∀ (g : Nat) (cur : Array Value), (w.heap.size ≤ g ∧ g ≠ w3.heap.size + 1 ∧ g ≠ w3.heap.size) → Own { W4 with heap := #[] } g cur 25 → Own W4 g cur 25 := fun g cur _ ho => by have := ho.lt; simp at this
          have hku1 : ∀ (g : Nat) (cur : Array Value), w.heap.size ≤ g → Own w1 g cur 25 → Own W4 g cur 25 := fun g cur _ ho => ho.below hb14
          have hFR1 : ∀ g, w.heap.size ≤ g → g < w1.heap.size → ({ W4 with heap := #[] } : World).heap.size ≤ g ∧ (w.heap.size ≤ g ∧ g ≠ w3.heap.size + 1 ∧ g ≠ w3.heap.size) := fun g h1 h2 => ⟨by simp, h1, by omega, by omega⟩
          have hz0 : ({ W4 with heap := #[] } : World).heap.size ≤ W4.heap.size := by simp
          have hR4 : w.heap.size ≤ W4.heap.size ∧ W4.heap.size ≠ w3.heap.size + 1 ∧ W4.heap.size ≠ w3.heap.size := by omega
          have h631 : ([] : List Tree).length + x.kids.length ≤ 1000000000 := by simp; omega
          go_wp2_with (first | (at_builtin; refine wpList_appRow rfl (.tmp 54) (.tmp 56) rfl (fun g => w.heap.size ≤ g ∧ g ≠ w3.heap.size + 1 ∧ g ≠ w3.heap.size) (.slice none 0 0) [] rfl { W4 with heap := #[] } hnil (by rw [← hW4]; exact hkn) _ x.kids rfl w1 w.heap.size hrow1 (by rw [← hW4]; exact hku1) hFR1 h631 (by rw [← hW4]; exact hz0) (by rw [← hW4]; exact hR4) ?_; intro v' wy hrow' gy hvb hvn; rw [← hW4] at gy hvn; have owy := ow.grown gy (by simp [Value.ownBlock]); rw [List.nil_append] at hrow'; obtain ⟨aov, capv, rfl⟩ := hrow'.shape) | (refine wpList_put1nodes rfl (.tmp 58) (.tmp 57) rfl rfl (w3.heap.size + 1) 4 rfl rfl owy (by simp) ?_; intro wz oz gz; have q2 := (o2X.grown gy (by simp [Value.ownBlock])).grown gz (some_ne (by omega)); obtain ⟨e0, e1, e2, e3, e4, ef⟩ := q2.five; have hq2 := q2.lt))
          have hb4y : Below w3.heap.size W4 wy := below_grown (Below.refl w3.heap.size W4) gy (fun k hk => by simp [Value.ownBlock] at hk) (by omega)
          have hb4z : Below w3.heap.size W4 wz := below_grown hb4y gz (fun k hk => by have := Option.some.inj hk; omega) (by omega)
          have hb3z : Below w3.heap.size w3 wz := hb34.trans hb4z
          have hb2z : Below w2.heap.size w2 wz := hb23.trans (hb3z.mono hs23)
          have hb0z : Below w.heap.size w wz := hbB.trans (hb3z.mono hbB.size)
          have oz3 := (o3.grown gy (by simp [Value.ownBlock])).grown gz (some_ne (by omega))
          have hsz4 := gy.size
          have hszz := gz.size
          have hrowz : RowQ wz (fun g => w.heap.size ≤ g ∧ g ≠ w3.heap.size + 1 ∧ g ≠ w3.heap.size) (.slice aov x.kids.length capv) x.kids := hrow'.on fun g hg cur ho => ho.grown gz (some_ne hg.2.1)
          have CS := shifted_as 0 ((a.size : Int) + 1) _ y (Nat.le_refl _) HGY.out wz _ _ _ _ _ (HR2.out.below hb2z)
          refine CS.mono ?_
          clear CS e0 e1 e2 e3 e4 ef p0 p1 p2 p3 p4 pf1
          rintro en w5 ⟨k5, x5, s5, n5, v5, rfl, hN5, hb5⟩
          obtain ⟨zT, hzT⟩ : ∃ zT, mapTr (shf 0 ((a.size : Int) + 1)) y = zT := ⟨_, rfl⟩
          rw [hzT] at hN5
          obtain ⟨ao5, cap5, rfl⟩ := hN5.q.shape
          have hzk : zT.kids = y.kids.map (mapTr (shf 0 ((a.size : Int) + 1))) := by rw [← hzT]; obtain ⟨yk, ya, yt, yn, ys⟩ := y; rw [mapTr_mk]
          have hzl : zT.kids.length ≤ 1000000 := by rw [hzk, List.length_map]; exact hgyl
          have HNT2 : Hid (nT = ⟨1, 0, [], 0, x.kids ++ zT.kids⟩) := by unfold Hid; rw [hzk, HWR.out]; exact HNT.out
          have HNL : Hid (nT.kids.length = nl) := by have := HR3.out.2.2.2.2; obtain ⟨_, _, q, _⟩ := this; cases q; rfl
          clear hzT hzk HNT HWR
          have hs5 := hb5.size
          have ow5 := oz.below hb5
          have o35 := oz3.below hb5
          have hrow5 := hN5.2.2.2.2
          obtain ⟨W6, hW6⟩ : ∃ W6, W6 = w5.alloc (.cells #[.int .u8 k5, .int .i64 x5, .string s5, .int .u64 n5, .slice ao5 zT.kids.length cap5] 25) := ⟨_, rfl⟩
          have hb56 : Below w5.heap.size w5 W6 := by rw [hW6]; exact (Below.refl _ _).alloc (Nat.le_refl _) _
          have hs56 : w5.heap.size + 1 = W6.heap.size := by rw [hW6, World.size_alloc]
          have hbz6 : Below wz.heap.size wz W6 := hb5.trans (hb56.mono hs5)
          have ow6 : Own W6 (w3.heap.size + 1) #[.int .u8 1, .int .i64 0, .string ⟨#[]⟩, .int .u64 0, .slice aov x.kids.length capv] 25 := ow5.below hb56
          have o36 := o35.below hb56
          have hkx : ∀ (g : Nat) (cur : Array Value), (w.heap.size ≤ g ∧ g ≠ w3.heap.size + 1 ∧ g ≠ w3.heap.size) → Own wz g cur 25 → Own W6 g cur 25 := fun g cur _ ho => ho.below hbz6
          have hkz : ∀ (g : Nat) (cur : Array Value), wz.heap.size ≤ g → Own w5 g cur 25 → Own W6 g cur 25 := fun g cur _ ho => ho.below hb56
          have hFRz : ∀ g, wz.heap.size ≤ g → g < w5.heap.size → wz.heap.size ≤ g ∧ (w.heap.size ≤ g ∧ g ≠ w3.heap.size + 1 ∧ g ≠ w3.heap.size) := fun g h1 h2 => ⟨h1, by omega, by omega, by omega⟩
          have hR6 : w.heap.size ≤ W6.heap.size ∧ W6.heap.size ≠ w3.heap.size + 1 ∧ W6.heap.size ≠ w3.heap.size := by omega
          have h632 : x.kids.length + zT.kids.length ≤ 1000000000 := by omega
          have hz6 : wz.heap.size ≤ W6.heap.size := hbz6.size
          have ow5' : Own w5 (w3.heap.size + 1) #[.int .u8 1, .int .i64 0, .string ⟨#[]⟩, .int .u64 0, .slice aov x.kids.length capv] 25 := ow5
          obtain ⟨c0, c1, c2, c3, c4, cf⟩ := ow5'.five
          have hlw := ow5'.lt
          clear ow5'
          go_wp2_with (first | (at_builtin; refine wpList_appRow rfl (.tmp 65) (.tmp 67) rfl (fun g => w.heap.size ≤ g ∧ g ≠ w3.heap.size + 1 ∧ g ≠ w3.heap.size) _ x.kids rfl wz hrowz (by rw [← hW6]; exact hkx) _ zT.kids rfl w5 wz.heap.size hrow5 (by rw [← hW6]; exact hkz) hFRz h632 (by rw [← hW6]; exact hz6) (by rw [← hW6]; exact hR6) ?_; intro v7 w7 hrow7 g7 hvb7 _; rw [← hW6] at g7; have ow7 := ow6.grown g7 (fun e => (hvb7 _ e.symm).1.2.1 rfl); obtain ⟨ao7, cap7, rfl⟩ := hrow7.shape) | (refine wpList_put1nodes rfl (.tmp 69) (.tmp 68) rfl rfl (w3.heap.size + 1) 4 rfl rfl ow7 (by simp) ?_; intro w8 o8 g8; have o38 := (o36.grown g7 (fun e => (hvb7 _ e.symm).1.2.2 rfl)).grown g8 (some_ne (by omega)); obtain ⟨m0, m1, m2, m3, m4, mf⟩ := o38.five; obtain ⟨t0, t1, t2, t3, t4, tf⟩ := o8.five; have hl8 := o8.lt; have hl38 := o38.lt))
          have hs67 := g7.size
          have hk3 : ∀ k, (Value.slice aov x.kids.length capv).ownBlock = some k → w3.heap.size ≤ k := fun k hk => by
            rcases hvn with q | q
            · rw [hk] at q; cases q
            · rw [hk] at q; have := Option.some.inj q; omega
          have hb67 : Below w3.heap.size W6 w7 := below_grown (Below.refl w3.heap.size W6) g7 hk3 (by omega)
          have hb68 : Below w3.heap.size W6 w8 := below_grown hb67 g8 (fun k hk => by have := Option.some.inj hk; omega) (by omega)
          have hb38 : Below w3.heap.size w3 w8 := hb3z.trans ((hbz6.mono (by omega)).trans hb68)
          have hR8 : NodeR w8 nT k3 x3 s3 n3 (.slice ao3 nl cap3) := HR3.out.below hb38
          have hrow8 := (hrow7.on fun g hg cur ho => ho.grown g8 (some_ne hg.2.1)).rd
          have hT8 : NodeR w8 nT 1 0 ⟨#[]⟩ 0 (.slice ao7 (x.kids ++ zT.kids).length cap7) := by
            rw [HNT2.out]
            exact ⟨rfl, rfl, rfl, rfl, hrow8⟩
          try rw [List.length_append] at hT8
          refine (kSameNode_as (eqv_refl true nT) _ _ _ _ _ _ _ _ _ _ _ hR8 hT8).mono ?_
          rintro en w9 ⟨rfl, hb9⟩
          go_wp2_with fail
          refine (works_any _ ((hLw3.on hb38).on hb9)).mono ?_
          rintro en w10 ⟨rfl, hb10⟩
          go_wp2
          go_ret
          exact ⟨rfl, hbB.trans ((hb38.trans ((hb9.trans (hb10.mono hb9.size)).mono hb38.size)).mono hbB.size)⟩
end Go.Proofs.YtkagkofgfjhfgaaGreatDoor
