import Derived.Test.YtmhnbklchnnbaaaGreatDoorQ28
import Derived.Test.YtmhnbklchnnbaaaGreatDoorJStmt7
import Derived.Maps.AppendAt
set_option maxHeartbeats 8000000
set_option maxRecDepth 100000
namespace Go.Proofs.YtmhnbklchnnbaaaGreatDoor
open Go.RowKit
set_option linter.unusedVariables false
theorem ownsN_on {w w' : World} {B n : Nat} {v : Value} {xs : List Value} (h : w.ownsRow B 25 5 v n xs) (hb : ∀ g, g < w.heap.size → w'.heap[g]? = w.heap[g]?) : w'.ownsRow B 25 5 v n xs := by
  refine ⟨h.1, ?_⟩
  rcases h.2 with h | ⟨g5, c5, cur5, e5, h5, o5, r5⟩
  · exact .inl h
  · exact .inr ⟨g5, c5, cur5, e5, h5, (hb g5 (Array.getElem?_eq_some_iff.1 o5).1).trans o5, r5⟩
theorem ownsN_shape {w : World} {B n : Nat} {v : Value} {xs : List Value} (h : w.ownsRow B 25 5 v n xs) : ∃ ao cap, v = .slice ao n cap := by
  rcases h.2 with ⟨rfl, h0⟩ | ⟨g, cap, cur, rfl, _⟩
  · exact ⟨_, _, by rw [h0]⟩
  · exact ⟨_, _, rfl⟩
def marks : Nat → List Value
  | 0 => []
  | c + 1 => marks c ++ mkC
abbrev QL (w wr : World) (v : Value) : Nat → Prop := fun g => w.heap.size + 3 ≤ g ∧ g < wr.heap.size ∧ some g ≠ v.ownBlock
def LRel (w : World) (ts : List Tree) (ka : Array Value) (k x : Int) (s : ByteArray) (n : Int) (iv : Value) (wr : World) : Prop := ∃ (j : Nat) (ao : Option Addr) (cap : Nat) (xs : List Value), j ≤ ts.length ∧ iv = .int .i64 (j : Int) ∧ Own wr w.heap.size ka 25 ∧ Own wr (w.heap.size + 1) #[.int .u8 0, .int .i64 0, .string ⟨#[]⟩, .int .u64 0, .slice none 0 0] 25 ∧
  Own wr (w.heap.size + 2) #[.int .u8 k, .int .i64 x, .string s, .int .u64 n, .slice ao j cap] 25 ∧ wr.ownsRow (w.heap.size + 3) 25 5 (.slice ao j cap) j xs ∧ LentC wr (QL w wr (.slice ao j cap)) (ts.take j) xs ∧ Below w.heap.size w wr ∧ w.heap.size + 3 ≤ wr.heap.size
def LRel2 (w : World) (ts : List Tree) (m : Nat) (ka : Array Value) (k x : Int) (s : ByteArray) (n : Int) (g : Nat) (iv : Value) (wr : World) : Prop := ∃ (c : Nat) (ao : Option Addr) (cap : Nat) (ys : List Value), c + g = 2 ∧ iv = .int .i64 (c : Int) ∧ Own wr w.heap.size ka 25 ∧ Own wr (w.heap.size + 1) #[.int .u8 0, .int .i64 0, .string ⟨#[]⟩, .int .u64 0, .slice none 0 0] 25 ∧
  Own wr (w.heap.size + 2) #[.int .u8 k, .int .i64 x, .string s, .int .u64 n, .slice ao (m + c) cap] 25 ∧ wr.ownsRow (w.heap.size + 3) 25 5 (.slice ao (m + c) cap) (m + c) (ys ++ marks c) ∧ LentC wr (QL w wr (.slice ao (m + c) cap)) ts ys ∧ Below w.heap.size w wr ∧ w.heap.size + 3 ≤ wr.heap.size
theorem mk_one : ∀ u ∈ mkC, u.oneCell' = true := by
  intro u hu
  simp only [mkC, List.mem_cons, List.not_mem_nil, or_false] at hu
  rcases hu with rfl | rfl | rfl | rfl | rfl <;> rfl
theorem mk_new (wr : World) : ∀ (j : Nat) (u : Value), mkC[j]? = some u → (wr.alloc (.cells #[.int .u8 177, .int .i64 0, .string ⟨#[]⟩, .int .u64 0, .slice none 0 0] 25)).cell? ((⟨wr.heap.size, 0, none⟩ : Addr).add j) = some u := by
  intro j u hu
  have hadd : (⟨wr.heap.size, 0, none⟩ : Addr).add j = ⟨wr.heap.size, j, none⟩ := by unfold Addr.add; split <;> simp_all
  rw [hadd, cell_of_row _ _ j _ 25 _ (Own.new wr #[.int .u8 177, .int .i64 0, .string ⟨#[]⟩, .int .u64 0, .slice none 0 0] 25)]
  simpa [mkC] using hu
theorem lent_keep {w wr X wy wz : World} {v v' : Value} {xs : List Value} {n b : Nat} (hX : ∀ g, g < wr.heap.size → X.heap[g]? = wr.heap[g]?) (hXs : wr.heap.size ≤ X.heap.size) (gy : X.grownBy wy v.ownBlock) (gz : wy.grownBy wz (some b)) (hb : b < w.heap.size + 3)
    (hob : v'.ownBlock = v.ownBlock ∨ v'.ownBlock = some X.heap.size) : ∀ g, QL w wr v g → wz.heap[g]? = wr.heap[g]? ∧ QL w wz v' g := by
  rintro g ⟨h1, h2, h3⟩
  have hs := gy.size
  have hs2 := gz.size
  refine ⟨(gz.block g (by omega) (fun e => by have := Option.some.inj e; omega)).trans ((gy.block g (by omega) h3).trans (hX g h2)), h1, by omega, ?_⟩
  rcases hob with e | e
  · rw [e]; exact h3
  · rw [e]; intro e2; have := Option.some.inj e2; omega
theorem klent_as : ∀ (N : Nat) (t : Tree), cntT t ≤ N → N ≤ 70000 → ∀ (w : World) (k x : Int) (s : ByteArray) (n : Int) (v : Value), NodeR w t k x s n v →
    Calls Tryz.prog 5 #[.agg #[.int .u8 k, .int .i64 x, .string s, .int .u64 n, v]] w fun en w' => ∃ v', en = .returned (.agg #[.int .u8 k, .int .i64 x, .string s, .int .u64 n, v']) ∧ LentK w' (fun g => w.heap.size ≤ g ∧ g < w'.heap.size) v' t.kids ∧ Below w.heap.size w w' := by
  intro N
  induction N with
  | zero => intro t h; rw [cnt_parts] at h; omega
  | succ N ih =>
    intro t hN hN7 w k x s n v ha
    have HI : Hid (∀ (t : Tree), cntT t ≤ N → N ≤ 70000 → ∀ (w : World) (k x : Int) (s : ByteArray) (n : Int) (v : Value), NodeR w t k x s n v →
      Calls Tryz.prog 5 #[.agg #[.int .u8 k, .int .i64 x, .string s, .int .u64 n, v]] w fun en w' => ∃ v', en = .returned (.agg #[.int .u8 k, .int .i64 x, .string s, .int .u64 n, v']) ∧ LentK w' (fun g => w.heap.size ≤ g ∧ g < w'.heap.size) v' t.kids ∧ Below w.heap.size w w') := ih
    clear ih
    obtain ⟨e1, e2, e3, e4, hka⟩ := ha
    obtain ⟨ao, cap, rfl, hc1, hc2, _⟩ := id hka
    have HA : Hid (KidsR w (.slice ao t.kids.length cap) t.kids) := hka
    have HC : Hid (cntT.cntL t.kids ≤ N) := by unfold Hid; rw [cnt_parts] at hN; omega
    obtain ⟨m, hm⟩ : ∃ m, t.kids.length = m := ⟨_, rfl⟩
    have hml : m ≤ 70000 := by have := cntL_len t.kids; have := HC.out; omega
    rw [hm] at hc1 ⊢
    have HM : Hid (t.kids.length = m) := hm
    have hN8 : N ≤ 70000 := by omega
    clear hka hm e1 e2 e3 e4 hN
    obtain ⟨i8, hi8, hz0, hz1, hz2⟩ := info_parts infoN
    have o1 := ((Own.new w #[.int .u8 k, .int .i64 x, .string s, .int .u64 n, .slice ao m cap] 25).alloc (.cells #[.int .u8 0, .int .i64 0, .string ⟨#[]⟩, .int .u64 0, .slice none 0 0] 25)).alloc (.cells #[.int .u8 k, .int .i64 x, .string s, .int .u64 n, .slice none 0 0] 25)
    have o2 := (Own.new (w.alloc (.cells #[.int .u8 k, .int .i64 x, .string s, .int .u64 n, .slice ao m cap] 25)) #[.int .u8 0, .int .i64 0, .string ⟨#[]⟩, .int .u64 0, .slice none 0 0] 25).alloc (.cells #[.int .u8 k, .int .i64 x, .string s, .int .u64 n, .slice none 0 0] 25)
    have o3 := Own.new ((w.alloc (.cells #[.int .u8 k, .int .i64 x, .string s, .int .u64 n, .slice ao m cap] 25)).alloc (.cells #[.int .u8 0, .int .i64 0, .string ⟨#[]⟩, .int .u64 0, .slice none 0 0] 25)) #[.int .u8 k, .int .i64 x, .string s, .int .u64 n, .slice none 0 0] 25
    rw [World.size_alloc] at o2
    rw [World.size_alloc, World.size_alloc] at o3
    have hb0 : Below w.heap.size w (((w.alloc (.cells #[.int .u8 k, .int .i64 x, .string s, .int .u64 n, .slice ao m cap] 25)).alloc (.cells #[.int .u8 0, .int .i64 0, .string ⟨#[]⟩, .int .u64 0, .slice none 0 0] 25)).alloc (.cells #[.int .u8 k, .int .i64 x, .string s, .int .u64 n, .slice none 0 0] 25)) := (((Below.refl _ _).alloc (Nat.le_refl _) _).alloc (by rw [World.size_alloc]; omega) _).alloc (by rw [World.size_alloc, World.size_alloc]; omega) _
    have hsz : w.heap.size + 3 ≤ (((w.alloc (.cells #[.int .u8 k, .int .i64 x, .string s, .int .u64 n, .slice ao m cap] 25)).alloc (.cells #[.int .u8 0, .int .i64 0, .string ⟨#[]⟩, .int .u64 0, .slice none 0 0] 25)).alloc (.cells #[.int .u8 k, .int .i64 x, .string s, .int .u64 n, .slice none 0 0] 25)).heap.size := by rw [World.size_alloc, World.size_alloc, World.size_alloc]; omega
    go_enter Tryz.func5, Tryz.ntmps5
    go_wp2_with fail
    go_loopw [4] (fun iv wr => LRel w t.kids #[.int .u8 k, .int .i64 x, .string s, .int .u64 n, .slice ao m cap] k x s n iv wr) (fun iv _ => m - (intOf iv).toNat)
    case atStart => exact ⟨0, none, 0, [], Nat.zero_le _, rfl, o1, o2, o3, ⟨rfl, .inl ⟨rfl, rfl⟩⟩, by rw [List.take_zero, LentC], hb0, hsz⟩
    case round =>
      clear o1 o2 o3 hb0 hsz
      obtain ⟨j, ao2, cap2, xs, hj, rfl, o1, o2, o3, hown, hlent, hb, hsz⟩ := hrel
      obtain ⟨a0, a1, a2, a3, a4, af⟩ := o1.five
      obtain ⟨c0, c1, c2, c3, c4, cf⟩ := o3.five
      have hl1 := o1.lt
      have hl3 := o3.lt
      rw [HM.out] at hj
      have HOW : Hid (wr.ownsRow (w.heap.size + 3) 25 5 (.slice ao2 j cap2) j xs) := hown
      have HLE : Hid (LentC wr (QL w wr (.slice ao2 j cap2)) (t.kids.take j) xs) := hlent
      clear hlent hown
      by_cases hjl : j < m
      · have hja : j < t.kids.length := by rw [HM.out]; exact hjl
        obtain ⟨ta, hta⟩ : ∃ ta, t.kids[j]? = some ta := ⟨_, List.getElem?_eq_getElem hja⟩
        have HTA : Hid (t.kids[j]? = some ta) := hta
        obtain ⟨g2, q2, aj, cj, rfl, hg2, f0, f1, f2, f3, f4, hk1⟩ := kids_cells HA.out hb j ta hta
        have hct : cntT ta ≤ N := Nat.le_trans (cnt_get hta) HC.out
        have CL := HI.out ta hct hN8 wr _ _ _ _ _ ⟨rfl, rfl, rfl, rfl, hk1.below hb⟩
        have hjq : (j : Int) < (m : Int) := by omega
        have hg2r : g2 < wr.heap.size := Nat.lt_of_lt_of_le hg2 hb.size
        have hszb := hb.size
        clear hta hk1 hct hja
        go_wp2_with fail
        refine CL.mono ?_
        clear CL
        rintro en wx ⟨v1, rfl, hL1, hb1⟩
        have HL1 : Hid (LentK wx (fun g => wr.heap.size ≤ g ∧ g < wx.heap.size) v1 ta.kids) := hL1
        obtain ⟨gx, cx, curx, ysx, rfl, _⟩ := id hL1
        obtain ⟨K1, hK1⟩ : ∃ K : Int, (ta.kind : Int) = K := ⟨_, rfl⟩
        obtain ⟨A1, hA1⟩ : ∃ A : Int, ta.at_ = A := ⟨_, rfl⟩
        obtain ⟨S1, hS1⟩ : ∃ S, strN ta.text = S := ⟨_, rfl⟩
        obtain ⟨N1, hN1⟩ : ∃ K : Int, (ta.n : Int) = K := ⟨_, rfl⟩
        obtain ⟨L1, hLn⟩ : ∃ L, ta.kids.length = L := ⟨_, rfl⟩
        have HE1 : Hid ([Value.int .u8 (ta.kind : Int), .int .i64 ta.at_, .string (strN ta.text), .int .u64 (ta.n : Int), .slice (some ⟨gx, 0, none⟩) ta.kids.length cx] = [.int .u8 K1, .int .i64 A1, .string S1, .int .u64 N1, .slice (some ⟨gx, 0, none⟩) L1 cx]) := by unfold Hid; rw [hK1, hA1, hS1, hN1, hLn]
        rw [hLn] at HL1
        simp only [hK1, hA1, hS1, hN1, hLn]
        have hs1 := hb1.size
        have p1 := o1.below hb1
        have p2 := o2.below hb1
        have p3 := o3.below hb1
        have hbx1 : Below wx.heap.size wx ((wx.alloc (.cells #[.int .u8 K1, .int .i64 A1, .string S1, .int .u64 N1, .slice (some ⟨gx, 0, none⟩) L1 cx] 25)).alloc (.cells #[.int .u8 K1, .int .i64 A1, .string S1, .int .u64 N1, .slice (some ⟨gx, 0, none⟩) L1 cx] 25)) := ((Below.refl _ _).alloc (Nat.le_refl _) _).alloc (by rw [World.size_alloc]; omega) _
        have hbo := Own.new (wx.alloc (.cells #[.int .u8 K1, .int .i64 A1, .string S1, .int .u64 N1, .slice (some ⟨gx, 0, none⟩) L1 cx] 25)) #[.int .u8 K1, .int .i64 A1, .string S1, .int .u64 N1, .slice (some ⟨gx, 0, none⟩) L1 cx] 25
        rw [World.size_alloc] at hbo
        obtain ⟨X, hX⟩ : ∃ X, X = (wx.alloc (.cells #[.int .u8 K1, .int .i64 A1, .string S1, .int .u64 N1, .slice (some ⟨gx, 0, none⟩) L1 cx] 25)).alloc (.cells #[.int .u8 K1, .int .i64 A1, .string S1, .int .u64 N1, .slice (some ⟨gx, 0, none⟩) L1 cx] 25) := ⟨_, rfl⟩
        have hXs : wx.heap.size + 2 = X.heap.size := by rw [hX, World.size_alloc, World.size_alloc]
        have hbX1 : Below wx.heap.size wx X := by rw [hX]; exact hbx1
        have hbx : Below wr.heap.size wr X := hb1.trans (hbX1.mono hs1)
        have p3X := o3.below hbx
        have p1X := o1.below hbx
        have p2X := o2.below hbx
        have hbX : Below w.heap.size w X := hb.trans (hbx.mono hb.size)
        have hownX : X.ownsRow (w.heap.size + 3) 25 5 (.slice ao2 j cap2) j xs := ownsN_on HOW.out fun g hg => hbx.block g hg
        have hlt := fun k hk => HOW.out.lt k hk
        obtain ⟨r0, r1, r2, r3, r4, rf⟩ := p3.five
        have hl3x := p3.lt
        have hnews : ∀ (jj : Nat) (u : Value), [Value.int .u8 K1, .int .i64 A1, .string S1, .int .u64 N1, .slice (some ⟨gx, 0, none⟩) L1 cx][jj]? = some u → X.cell? ((⟨wx.heap.size + 1, 0, none⟩ : Addr).add jj) = some u := by
          intro jj u hu
          have hadd : (⟨wx.heap.size + 1, 0, none⟩ : Addr).add jj = ⟨wx.heap.size + 1, jj, none⟩ := by unfold Addr.add; split <;> simp_all
          rw [hadd, hX, cell_of_row _ _ jj _ 25 _ hbo]
          simpa using hu
        have hone : ∀ u ∈ [Value.int .u8 K1, .int .i64 A1, .string S1, .int .u64 N1, .slice (some ⟨gx, 0, none⟩) L1 cx], u.oneCell' = true := by
          intro u hu
          simp only [List.mem_cons, List.not_mem_nil, or_false] at hu
          rcases hu with rfl | rfl | rfl | rfl | rfl <;> rfl
        have h63 : j + 1 ≤ maxLen := by unfold maxLen; omega
        have hsX : w.heap.size + 3 ≤ X.heap.size := Nat.le_trans hsz hbx.size
        clear f0 f1 f2 f3 f4 hbo hbx1 hL1
        go_wp2_with (first | (at_builtin; rw [← hX]; refine wpList_append_own_at _ rfl (.tmp 23) (.tmp 25) 23 rfl (w.heap.size + 3) 25 i8 _ 5 64 Tryz.underlying23 hi8 hz0 hz1 hz2 rfl (by omega) _ j xs rfl hownX ⟨wx.heap.size + 1, 0, none⟩ 1 1 _ rfl rfl hnews hone h63 (by omega) hsX ?_; intro v' wy hown2 gy _ hob; obtain ⟨aoy, capy, rfl⟩ := ownsN_shape hown2; have oy3 := p3X.grown gy (fun e => by have := (hlt _ e.symm).1; omega)) | (refine wpList_put1nodes rfl (.tmp 27) (.tmp 26) rfl rfl (w.heap.size + 2) 4 rfl rfl oy3 (by simp) ?_; intro wz oz gz))
        have hb2 := below_grown hbX gy (fun kk hk => by have := (hlt kk hk).1; omega) (Nat.le_refl _)
        have hb3 := below_grown hb2 gz (fun kk hk => by have := Option.some.inj hk; omega) (Nat.le_refl _)
        have oz1 := (p1X.grown gy (fun e => by have := (hlt _ e.symm).1; omega)).grown gz (some_ne (by omega))
        have oz2 := (p2X.grown gy (fun e => by have := (hlt _ e.symm).1; omega)).grown gz (some_ne (by omega))
        have hsz2 : w.heap.size + 3 ≤ wz.heap.size := by have := gy.size; have := gz.size; omega
        have hownz : wz.ownsRow (w.heap.size + 3) 25 5 (.slice aoy (j + 1) capy) (j + 1) (xs ++ [Value.int .u8 K1, .int .i64 A1, .string S1, .int .u64 N1, .slice (some ⟨gx, 0, none⟩) L1 cx]) := by
          refine ⟨hown2.1, ?_⟩
          rcases hown2.2 with h | ⟨g5, c5, cur5, e5, h5, o5, r5⟩
          · exact .inl h
          · exact .inr ⟨g5, c5, cur5, e5, h5, (gz.block g5 (Array.getElem?_eq_some_iff.1 o5).1 (fun e => by have := Option.some.inj e; omega)).trans o5, r5⟩
        have hkeep := lent_keep (w := w) (v' := .slice aoy (j + 1) capy) (xs := xs) (n := j) (fun g hg => hbx.block g hg) hbx.size gy gz (by omega) hob
        have HLz : Hid (LentC wz (QL w wz (.slice aoy (j + 1) capy)) (t.kids.take (j + 1)) (xs ++ [Value.int .u8 K1, .int .i64 A1, .string S1, .int .u64 N1, .slice (some ⟨gx, 0, none⟩) L1 cx])) := by
          unfold Hid
          have h1 := LentC.on hkeep _ _ HLE.out
          have h2 : LentK wz (QL w wz (.slice aoy (j + 1) capy)) (.slice (some ⟨gx, 0, none⟩) L1 cx) ta.kids := LentK.on (fun g hg => by
            have hq := gy.size
            have hq2 := gz.size
            have hgx : some g ≠ (Value.slice ao2 j cap2).ownBlock := fun e => by have := (hlt _ e.symm).2; omega
            refine ⟨(gz.block g (by omega) (fun e => by have := Option.some.inj e; omega)).trans ((gy.block g (by omega) hgx).trans (hbX1.block g hg.2)), by omega, by omega, ?_⟩
            rcases hob with e | e
            · rw [e]; exact hgx
            · rw [e]; intro e2; have := Option.some.inj e2; omega) HL1.out
          rw [← hLn] at h2
          have h3 := LentC.snoc h2 _ _ h1
          rw [HE1.out, ← take_one_of HTA.out] at h3
          exact h3
        clear hkeep
        go_wp2
        go_roundw
        case rel => exact ⟨j + 1, aoy, capy, _, by rw [HM.out]; omega, by go_num, oz1, oz2, oz, hownz, HLz.out, hb3, hsz2⟩
        case measure => simp [intOf]; omega
      · have hje : j = m := by omega
        subst hje
        have hjq : ¬ ((j : Int) < (j : Int)) := by omega
        have HLE2 : Hid (LentC wr (QL w wr (.slice ao2 j cap2)) t.kids xs) := by
          unfold Hid
          have h := HLE.out
          rw [List.take_of_length_le (by rw [HM.out]; omega)] at h
          exact h
        clear HLE
        go_wp2_with fail
        go_loopg [6] 2 (fun g iv wr2 => LRel2 w t.kids j #[.int .u8 k, .int .i64 x, .string s, .int .u64 n, .slice ao j cap] k x s n g iv wr2)
        case atStart => exact ⟨0, ao2, cap2, xs, by omega, rfl, o1, o2, o3, by rw [marks, List.append_nil]; exact HOW.out, HLE2.out, hb, hsz⟩
        case round =>
          clear o1 o2 o3 hb hsz HOW HLE2 a0 a1 a2 a3 a4 af c0 c1 c2 c3 c4 cf hl1 hl3
          obtain ⟨c, ao3, cap3, ys, hcg, rfl, o1, o2, o3, hown, hlent, hb, hsz⟩ := hrel
          obtain ⟨a0, a1, a2, a3, a4, af⟩ := o1.five
          obtain ⟨c0, c1, c2, c3, c4, cf⟩ := o3.five
          have hl1 := o1.lt
          have hl3 := o3.lt
          have HOW : Hid (wr.ownsRow (w.heap.size + 3) 25 5 (.slice ao3 (j + c) cap3) (j + c) (ys ++ marks c)) := hown
          have HLE : Hid (LentC wr (QL w wr (.slice ao3 (j + c) cap3)) t.kids ys) := hlent
          clear hlent hown
          by_cases hc2' : c < 2
          · have hcq : (c : Int) < 2 := by omega
            have hg1 : 1 ≤ gk := by omega
            have hlt := fun k hk => HOW.out.lt k hk
            have hbx : Below wr.heap.size wr (wr.alloc (.cells #[.int .u8 177, .int .i64 0, .string ⟨#[]⟩, .int .u64 0, .slice none 0 0] 25)) := (Below.refl _ _).alloc (Nat.le_refl _) _
            have hnews := mk_new wr
            obtain ⟨X, hX⟩ : ∃ X, X = wr.alloc (.cells #[.int .u8 177, .int .i64 0, .string ⟨#[]⟩, .int .u64 0, .slice none 0 0] 25) := ⟨_, rfl⟩
            rw [← hX] at hbx hnews
            have hXs : wr.heap.size + 1 = X.heap.size := by rw [hX, World.size_alloc]
            have p3X := o3.below hbx
            have p1X := o1.below hbx
            have p2X := o2.below hbx
            have hbX : Below w.heap.size w X := hb.trans (hbx.mono hb.size)
            have hownX : X.ownsRow (w.heap.size + 3) 25 5 (.slice ao3 (j + c) cap3) (j + c) (ys ++ marks c) := ownsN_on HOW.out fun g hg => hbx.block g hg
            have h63 : j + c + 1 ≤ maxLen := by unfold maxLen; omega
            have hsX : w.heap.size + 3 ≤ X.heap.size := Nat.le_trans hsz hbx.size
            go_wp2_with (first | (at_builtin; rw [← hX]; refine wpList_append_own_at _ rfl (.tmp 33) (.tmp 35) 23 rfl (w.heap.size + 3) 25 i8 _ 5 64 Tryz.underlying23 hi8 hz0 hz1 hz2 rfl (by omega) _ (j + c) (ys ++ marks c) rfl hownX ⟨wr.heap.size, 0, none⟩ 1 1 mkC rfl rfl hnews mk_one h63 (by omega) hsX ?_; intro v' wy hown2 gy _ hob; obtain ⟨aoy, capy, rfl⟩ := ownsN_shape hown2; have oy3 := p3X.grown gy (fun e => by have := (hlt _ e.symm).1; omega)) | (refine wpList_put1nodes rfl (.tmp 37) (.tmp 36) rfl rfl (w.heap.size + 2) 4 rfl rfl oy3 (by simp) ?_; intro wz oz gz))
            have hb2 := below_grown hbX gy (fun kk hk => by have := (hlt kk hk).1; omega) (Nat.le_refl _)
            have hb3 := below_grown hb2 gz (fun kk hk => by have := Option.some.inj hk; omega) (Nat.le_refl _)
            have oz1 := (p1X.grown gy (fun e => by have := (hlt _ e.symm).1; omega)).grown gz (some_ne (by omega))
            have oz2 := (p2X.grown gy (fun e => by have := (hlt _ e.symm).1; omega)).grown gz (some_ne (by omega))
            have hsz2 : w.heap.size + 3 ≤ wz.heap.size := by have := gy.size; have := gz.size; omega
            have hownz : wz.ownsRow (w.heap.size + 3) 25 5 (.slice aoy (j + c + 1) capy) (j + c + 1) (ys ++ marks c ++ mkC) := by
              refine ⟨hown2.1, ?_⟩
              rcases hown2.2 with h | ⟨g5, c5, cur5, e5, h5, o5, r5⟩
              · exact .inl h
              · exact .inr ⟨g5, c5, cur5, e5, h5, (gz.block g5 (Array.getElem?_eq_some_iff.1 o5).1 (fun e => by have := Option.some.inj e; omega)).trans o5, r5⟩
            have hkeep := lent_keep (w := w) (v' := .slice aoy (j + c + 1) capy) (xs := ys) (n := j) (fun g hg => hbx.block g hg) hbx.size gy gz (by omega) hob
            have HLz : Hid (LentC wz (QL w wz (.slice aoy (j + c + 1) capy)) t.kids ys) := LentC.on hkeep _ _ HLE.out
            clear hkeep
            go_wp2
            go_roundg (gk - 1)
            case rel => exact ⟨c + 1, aoy, capy, ys, by omega, by go_num, oz1, oz2, oz, by rw [marks, ← List.append_assoc]; exact hownz, HLz.out, hb3, hsz2⟩
            case measure => omega
          · have hcq : ¬ ((c : Int) < 2) := by omega
            obtain rfl : c = 2 := by omega
            rcases HOW.out.2 with ⟨_, h0⟩ | ⟨g, cap4, cur, e4, hgB, hg, r1, r2, r3, r4⟩
            · omega
            · cases e4
              have HCUR : Hid (cur.toList.take ((j + 2) * 5) = ys ++ (mkC ++ mkC)) := by
                unfold Hid
                have h := r4
                simpa [marks] using h
              have hcap : j + 2 ≤ cap3 := r1
              have hcap2 : cap3 ≤ 9223372036854775807 := by unfold maxLen at r2; exact r2
              have hi1 : (j : Int) ≤ (cap3 : Int) := by omega
              have HG : Hid (wr.heap[g]? = some (.cells cur 25 (0, 0))) := hg
              have hgl : g < wr.heap.size := (Array.getElem?_eq_some_iff.1 hg).1
              obtain ⟨d0, d1, d2, d3, d4, df⟩ := o2.five
              have hl2 := o2.lt
              clear HOW r1 r2 r3 r4 hg
              go_wp2_with (first | (refine wpList_put1nodes rfl (.tmp 44) (.tmp 43) rfl rfl (w.heap.size + 2) 4 rfl rfl o3 (by simp) ?_; intro wy oy gy; have oy2 := o2.grown gy (some_ne (by omega)); obtain ⟨y0, y1, y2, y3, y4, yf⟩ := oy.five; have hly := oy.lt) | (refine wpList_put5 rfl (.tmp 2) (.tmp 45) rfl rfl (w.heap.size + 1) rfl rfl oy2 ⟨rfl, rfl, rfl, rfl, rfl⟩ ?_; intro wz oz gz))
              refine bodyPost_cell1 (t := 25) rfl rfl rfl oz Tryz.underlying25 rfl (by kernel_rfl) ?_
              have hb2 := below_grown hb gy (fun kk hk => by have := Option.some.inj hk; omega) (Nat.le_refl _)
              have hb3 := below_grown hb2 gz (fun kk hk => by have := Option.some.inj hk; omega) (Nat.le_refl _)
              have hs4 := gy.size
              have hs5 := gz.size
              have hst : ∀ g', w.heap.size + 3 ≤ g' → g' < wr.heap.size → wz.heap[g']? = wr.heap[g']? := fun g' h1 h2 => (gz.block g' (by omega) (fun e => by have := Option.some.inj e; omega)).trans (gy.block g' h2 (fun e => by have := Option.some.inj e; omega))
              refine ⟨_, rfl, ⟨g, cap3, cur, ys, by rw [HM.out], ⟨by omega, by omega⟩, by rw [HM.out]; exact hcap, hcap2, (hst g hgB hgl).trans HG.out, by rw [HM.out]; exact HCUR.out, ?_⟩, hb3⟩
              exact LentC.on (fun g' hg' => ⟨hst g' hg'.1 hg'.2.1, by omega, by omega⟩) _ _ HLE.out
end Go.Proofs.YtmhnbklchnnbaaaGreatDoor
