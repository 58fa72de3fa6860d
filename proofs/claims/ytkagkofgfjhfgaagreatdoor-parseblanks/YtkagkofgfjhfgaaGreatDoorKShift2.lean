/-
  CONTRACT of the statements' own shifted: a tree with its places moved, new.
-/
import Derived.Test.YtkagkofgfjhfgaaGreatDoorKLike
import Derived.Test.YtkagkofgfjhfgaaGreatDoorJStmt7
import Derived.Test.YtkagkofgfjhfgaaGreatDoorJCkCheck
namespace Go.Proofs.YtkagkofgfjhfgaaGreatDoor
open Go.RowKit
set_option linter.unusedVariables false

def shf (fr by_ : Int) (p : Int) : Int := if fr ≤ p then wrap64 (p + by_) else p
def ShRel (w : World) (ts : List Tree) (g : Int → Int) (ka : Array Value) (k x : Int) (s : ByteArray) (n : Int) (B : Nat) (iv : Value) (wr : World) : Prop := ∃ (j : Nat) (ao : Option Addr) (cap : Nat), j ≤ ts.length ∧ iv = .int .i64 (j : Int) ∧ Own wr w.heap.size ka 25 ∧ Own wr (w.heap.size + 1) #[.int .u8 0, .int .i64 0, .string ⟨#[]⟩, .int .u64 0, .slice none 0 0] 25 ∧
  Own wr (w.heap.size + 2) #[.int .u8 k, .int .i64 x, .string s, .int .u64 n, .slice ao j cap] 25 ∧ Row wr B (.slice ao j cap) ((ts.take j).map (mapTr g)) ∧ Below w.heap.size w wr ∧ B ≤ wr.heap.size
set_option maxRecDepth 100000 in
set_option maxHeartbeats 4000000 in
theorem shifted_as (fr by_ : Int) : ∀ (N : Nat) (t : Tree), cntT t ≤ N → goodTr t → ∀ (w : World) (k x : Int) (s : ByteArray) (n : Int) (v : Value), NodeR w t k x s n v →
    Calls Tryz.prog 14 #[.agg #[.int .u8 k, .int .i64 x, .string s, .int .u64 n, v], .int .i64 fr, .int .i64 by_] w fun en w' => ∃ k' x' s' n' v', en = .returned (.agg #[.int .u8 k', .int .i64 x', .string s', .int .u64 n', v']) ∧ NodeIs w' w.heap.size (mapTr (shf fr by_) t) k' x' s' n' v' ∧ Below w.heap.size w w' := by
  intro N
  induction N with
  | zero => intro t h; rw [cnt_one] at h; omega
  | succ N ih =>
    intro t hN hgood w k x s n v ha
    have HI : Hid (∀ (t : Tree), cntT t ≤ N → goodTr t → ∀ (w : World) (k x : Int) (s : ByteArray) (n : Int) (v : Value), NodeR w t k x s n v →
      Calls Tryz.prog 14 #[.agg #[.int .u8 k, .int .i64 x, .string s, .int .u64 n, v], .int .i64 fr, .int .i64 by_] w fun en w' => ∃ k' x' s' n' v', en = .returned (.agg #[.int .u8 k', .int .i64 x', .string s', .int .u64 n', v']) ∧ NodeIs w' w.heap.size (mapTr (shf fr by_) t) k' x' s' n' v' ∧ Below w.heap.size w w') := ih
    clear ih
    obtain ⟨hgx, hgl, hgk⟩ := (good_parts t).1 hgood
    obtain ⟨e1, e2, e3, e4, hka⟩ := ha
    obtain ⟨ao, cap, rfl, _⟩ := id hka
    have HA : Hid (KidsR w (.slice ao t.kids.length cap) t.kids) := hka
    have HGK : Hid (goodTr.goodTL t.kids) := hgk
    have HC : Hid (cntT.cntL t.kids ≤ N) := by unfold Hid; rw [cnt_one] at hN; omega
    obtain ⟨m, hm⟩ : ∃ m, t.kids.length = m := ⟨_, rfl⟩
    rw [hm] at hgl ⊢
    have HM : Hid (t.kids.length = m) := hm
    have HE : Hid (k = (t.kind : Int) ∧ x = t.at_ ∧ s = strN t.text ∧ n = (t.n : Int)) := ⟨e1, e2, e3, e4⟩
    obtain ⟨x2, hx2⟩ : ∃ x2, shf fr by_ x = x2 := ⟨_, rfl⟩
    have HX2 : Hid (shf fr by_ x = x2) := hx2
    clear hgood hgx hgk hka hm e1 e2 e3 e4 hN
    have o1 := ((Own.new w #[.int .u8 k, .int .i64 x, .string s, .int .u64 n, .slice ao m cap] 25).alloc (.cells #[.int .u8 0, .int .i64 0, .string ⟨#[]⟩, .int .u64 0, .slice none 0 0] 25)).alloc (.cells #[.int .u8 k, .int .i64 x2, .string s, .int .u64 n, .slice none 0 0] 25)
    have o2 := (Own.new (w.alloc (.cells #[.int .u8 k, .int .i64 x, .string s, .int .u64 n, .slice ao m cap] 25)) #[.int .u8 0, .int .i64 0, .string ⟨#[]⟩, .int .u64 0, .slice none 0 0] 25).alloc (.cells #[.int .u8 k, .int .i64 x2, .string s, .int .u64 n, .slice none 0 0] 25)
    have o3 := Own.new ((w.alloc (.cells #[.int .u8 k, .int .i64 x, .string s, .int .u64 n, .slice ao m cap] 25)).alloc (.cells #[.int .u8 0, .int .i64 0, .string ⟨#[]⟩, .int .u64 0, .slice none 0 0] 25)) #[.int .u8 k, .int .i64 x2, .string s, .int .u64 n, .slice none 0 0] 25
    rw [World.size_alloc] at o2
    rw [World.size_alloc, World.size_alloc] at o3
    have hb0 : Below w.heap.size w (((w.alloc (.cells #[.int .u8 k, .int .i64 x, .string s, .int .u64 n, .slice ao m cap] 25)).alloc (.cells #[.int .u8 0, .int .i64 0, .string ⟨#[]⟩, .int .u64 0, .slice none 0 0] 25)).alloc (.cells #[.int .u8 k, .int .i64 x2, .string s, .int .u64 n, .slice none 0 0] 25)) := (((Below.refl _ _).alloc (Nat.le_refl _) _).alloc (by rw [World.size_alloc]; omega) _).alloc (by rw [World.size_alloc, World.size_alloc]; omega) _
    have hsz : w.heap.size + 3 ≤ (((w.alloc (.cells #[.int .u8 k, .int .i64 x, .string s, .int .u64 n, .slice ao m cap] 25)).alloc (.cells #[.int .u8 0, .int .i64 0, .string ⟨#[]⟩, .int .u64 0, .slice none 0 0] 25)).alloc (.cells #[.int .u8 k, .int .i64 x2, .string s, .int .u64 n, .slice none 0 0] 25)).heap.size := by rw [World.size_alloc, World.size_alloc, World.size_alloc]; omega
    have main : ∀ q : Bool, decide (fr ≤ x) = q → Calls Tryz.prog 14 #[.agg #[.int .u8 k, .int .i64 x, .string s, .int .u64 n, .slice ao m cap], .int .i64 fr, .int .i64 by_] w fun en w' => ∃ k' x' s' n' v', en = .returned (.agg #[.int .u8 k', .int .i64 x', .string s', .int .u64 n', v']) ∧ NodeIs w' w.heap.size (mapTr (shf fr by_) t) k' x' s' n' v' ∧ Below w.heap.size w w' := by
      intro q hq
      cases q with
      | false =>
        have hx3 : x2 = x := (by rw [← hx2]; unfold shf; rw [if_neg (by simpa using hq)])
        have hfx : ¬ fr ≤ x := (by simpa using hq)
        subst hx3
        clear hx2 hq
        go_enter Tryz.func14, Tryz.ntmps14
        go_wp2_with fail
        go_loopw [8] (fun iv wr => ShRel w t.kids (shf fr by_) #[.int .u8 k, .int .i64 x2, .string s, .int .u64 n, .slice ao m cap] k x2 s n (w.heap.size + 3) iv wr) (fun iv _ => m - (intOf iv).toNat)
        case atStart => exact ⟨0, none, 0, Nat.zero_le _, rfl, o1, o2, o3, Row.nil _ _, hb0, hsz⟩
        case round =>
          clear o1 o2 o3 hb0 hsz
          obtain ⟨j, ao2, cap2, hj, rfl, o1, o2, o3, hrow, hb, hsz⟩ := hrel
          obtain ⟨a0, a1, a2, a3, a4, af⟩ := o1.five
          obtain ⟨c0, c1, c2, c3, c4, cf⟩ := o3.five
          have hl1 := o1.lt
          have hl3 := o3.lt
          rw [HM.out] at hj
          by_cases hjl : j < m
          · have hja : j < t.kids.length := by rw [HM.out]; exact hjl
            obtain ⟨ta, hta⟩ : ∃ ta, t.kids[j]? = some ta := ⟨_, List.getElem?_eq_getElem hja⟩
            have HTA : Hid (t.kids[j]? = some ta) := hta
            obtain ⟨g2, q2, aj, cj, rfl, hg2, f0, f1, f2, f3, f4, hk1⟩ := kids_cells HA.out hb j ta hta
            have hct : cntT ta ≤ N := Nat.le_trans (cnt_get hta) HC.out
            have CL := HI.out ta hct (goodTL_get _ HGK.out j ta hta) wr _ _ _ _ _ ⟨rfl, rfl, rfl, rfl, hk1.below hb⟩
            have hjq : (j : Int) < (m : Int) := by omega
            have hg2r : g2 < wr.heap.size := Nat.lt_of_lt_of_le hg2 hb.size
            have hszb := hb.size
            clear hta hk1 hct hja
            go_wp2_with fail
            refine CL.mono ?_
            clear CL
            rintro en wx ⟨k1, a1', b1, n1x, v1, rfl, hN1, hb1⟩
            obtain ⟨tk, htk⟩ : ∃ tk, mapTr (shf fr by_) ta = tk := ⟨_, rfl⟩
            rw [htk] at hN1
            have HTK : Hid (mapTr (shf fr by_) ta = tk) := htk
            clear htk
            obtain ⟨ax, cx, rfl⟩ := hN1.q.shape
            have hs1 := hb1.size
            have p1 := o1.below hb1
            have p2 := o2.below hb1
            have p3 := o3.below hb1
            have hbx1 : Below wx.heap.size wx ((wx.alloc (.cells #[.int .u8 k1, .int .i64 a1', .string b1, .int .u64 n1x, .slice ax tk.kids.length cx] 25)).alloc (.cells #[.int .u8 k1, .int .i64 a1', .string b1, .int .u64 n1x, .slice ax tk.kids.length cx] 25)) := ((Below.refl _ _).alloc (Nat.le_refl _) _).alloc (by rw [World.size_alloc]; omega) _
            have hcs := (hN1.row fun x => (x.alloc (.cells #[.int .u8 k1, .int .i64 a1', .string b1, .int .u64 n1x, .slice ax tk.kids.length cx] 25)).alloc (.cells #[.int .u8 k1, .int .i64 a1', .string b1, .int .u64 n1x, .slice ax tk.kids.length cx] 25)).cells
            have hbo := Own.new (wx.alloc (.cells #[.int .u8 k1, .int .i64 a1', .string b1, .int .u64 n1x, .slice ax tk.kids.length cx] 25)) #[.int .u8 k1, .int .i64 a1', .string b1, .int .u64 n1x, .slice ax tk.kids.length cx] 25
            rw [World.size_alloc] at hbo
            obtain ⟨X, hX⟩ : ∃ X, X = (wx.alloc (.cells #[.int .u8 k1, .int .i64 a1', .string b1, .int .u64 n1x, .slice ax tk.kids.length cx] 25)).alloc (.cells #[.int .u8 k1, .int .i64 a1', .string b1, .int .u64 n1x, .slice ax tk.kids.length cx] 25) := ⟨_, rfl⟩
            have hXs : wx.heap.size + 2 = X.heap.size := by rw [hX, World.size_alloc, World.size_alloc]
            have hbx : Below wr.heap.size wr X := by rw [hX]; exact hb1.trans (hbx1.mono hs1)
            have hkeep : ∀ (g : Nat) (cur : Array Value), w.heap.size + 3 ≤ g → Own wr g cur 25 → Own X g cur 25 := fun g cur _ ho => ho.below hbx
            have p3X : Own X (w.heap.size + 2) #[.int .u8 k, .int .i64 x2, .string s, .int .u64 n, .slice ao2 j cap2] 25 := o3.below hbx
            have p1X := o1.below hbx
            have p2X := o2.below hbx
            have hbX : Below w.heap.size w X := hb.trans (hbx.mono hb.size)
            have hal : ((t.kids.take j).map (mapTr (shf fr by_))).length + 1 ≤ 1000000000 := by rw [List.length_map, List.length_take]; omega
            have hlj : ((t.kids.take j).map (mapTr (shf fr by_))).length = j := by rw [List.length_map, List.length_take, HM.out]; omega
            obtain ⟨r0, r1, r2, r3, r4, rf⟩ := p3.five
            have hl3x := p3.lt
            have hbo2 : Own X (wx.heap.size + 1) #[.int .u8 k1, .int .i64 a1', .string b1, .int .u64 n1x, .slice ax tk.kids.length cx] 25 := by rw [hX]; exact hbo
            have hcs2 : ∃ F, Cells X [tk] [.int .u8 k1, .int .i64 a1', .string b1, .int .u64 n1x, .slice ax tk.kids.length cx] F ∧ F.Nodup ∧ ∀ g ∈ F, wr.heap.size ≤ g := by rw [hX]; exact hcs
            have hsX : wr.heap.size ≤ X.heap.size := hbx.size
            have hwo : ∀ kk : Nat, w.heap.size + 3 ≤ kk → w.heap.size ≤ kk := fun kk hk => by omega
            clear f0 f1 f2 f3 f4 hcs hbo hN1 hbx1
            go_wp2_with (first | (at_builtin; refine wpList_appN rfl (.tmp 37) (.tmp 39) rfl (w.heap.size + 3) _ ((t.kids.take j).map (mapTr (shf fr by_))) rfl wr hrow (by rw [← hX]; exact hkeep) [tk] 1 1 rfl (wx.heap.size + 1) rfl _ (by rw [← hX]; exact hbo2) (by rw [← hX]; exact hcs2) hal hsz (by rw [← hX]; exact hsX) ?_; intro v' wy hrow' gy hvb; rw [← hX] at gy; have oy3 := p3X.grown gy (fun e => by have := (hvb _ e.symm).1; omega); obtain ⟨aoy, capy, rfl⟩ := hrow'.shape) | (refine wpList_put1nodes rfl (.tmp 41) (.tmp 40) rfl rfl (w.heap.size + 2) 4 rfl rfl oy3 (by simp) ?_; intro wz oz gz))
            have hb2 := below_grown hbX gy (fun kk hk => hwo kk (hvb kk hk).1) (Nat.le_refl _)
            have hb3 := below_grown hb2 gz (fun kk hk => by have := Option.some.inj hk; omega) (Nat.le_refl _)
            have oz1 := (p1X.grown gy (fun e => by have := (hvb _ e.symm).1; omega)).grown gz (some_ne (by omega))
            have oz2 := (p2X.grown gy (fun e => by have := (hvb _ e.symm).1; omega)).grown gz (some_ne (by omega))
            have hrz := hrow'.grown gz (by omega)
            have hsz2 : w.heap.size + 3 ≤ wz.heap.size := by have := gy.size; have := gz.size; omega
            have hll : ((t.kids.take j).map (mapTr (shf fr by_)) ++ [tk]).length = j + 1 := by rw [List.length_append, hlj]; rfl
            have hlist : (t.kids.take (j + 1)).map (mapTr (shf fr by_)) = (t.kids.take j).map (mapTr (shf fr by_)) ++ [tk] := by rw [List.take_add_one, HTA.out, List.map_append, ← HTK.out]; rfl
            have hmin : min j t.kids.length + 1 = j + 1 := by rw [HM.out]; omega
            rw [hmin] at oz
            rw [hll] at hrz
            go_wp2
            go_roundw
            case rel => exact ⟨j + 1, aoy, capy, by rw [HM.out]; omega, by go_num, oz1, oz2, oz, by rw [hlist]; exact hrz, hb3, hsz2⟩
            case measure => simp [intOf]; omega
          · have hje : j = m := by omega
            subst hje
            have hjq : ¬ ((j : Int) < (j : Int)) := by omega
            obtain ⟨d0, d1, d2, d3, d4, df⟩ := o2.five
            have hl2 := o2.lt
            go_wp2_with (refine wpList_put5 rfl (.tmp 6) (.tmp 42) rfl rfl (w.heap.size + 1) rfl rfl o2 ⟨rfl, rfl, rfl, rfl, rfl⟩ ?_; intro wz oz gz)
            refine bodyPost_cell1 (t := 25) rfl rfl rfl oz Tryz.underlying25 rfl (by kernel_rfl) ?_
            have hb3 := below_grown hb gz (fun kk hk => by have := Option.some.inj hk; omega) (Nat.le_refl _)
            have hrz := (hrow.grown gz (by omega)).mono (show w.heap.size ≤ w.heap.size + 3 by omega)
            rw [List.take_of_length_le (by rw [HM.out]; omega)] at hrz
            obtain ⟨q1, q2, q3, q4⟩ := HE.out
            refine ⟨_, _, _, _, _, rfl, ?_, hb3⟩
            obtain ⟨tk, tat, ttx, tn, tks⟩ := t
            rw [mapTr_mk]
            exact ⟨q1, by have e : tat = _ := q2.symm; show _ = shf fr by_ tat; rw [e]; exact HX2.out.symm, q3, q4, hrz⟩
      | true =>
        have hx3 : x2 = wrap64 (x + by_) := (by rw [← hx2]; unfold shf; rw [if_pos (by simpa using hq)])
        have hfx : fr ≤ x := (by simpa using hq)
        subst hx3
        clear hx2 hq
        go_enter Tryz.func14, Tryz.ntmps14
        go_wp2_with fail
        go_loopw [8] (fun iv wr => ShRel w t.kids (shf fr by_) #[.int .u8 k, .int .i64 x, .string s, .int .u64 n, .slice ao m cap] k (wrap64 (x + by_)) s n (w.heap.size + 3) iv wr) (fun iv _ => m - (intOf iv).toNat)
        case atStart => exact ⟨0, none, 0, Nat.zero_le _, rfl, o1, o2, o3, Row.nil _ _, hb0, hsz⟩
        case round =>
          clear o1 o2 o3 hb0 hsz
          obtain ⟨j, ao2, cap2, hj, rfl, o1, o2, o3, hrow, hb, hsz⟩ := hrel
          obtain ⟨a0, a1, a2, a3, a4, af⟩ := o1.five
          obtain ⟨c0, c1, c2, c3, c4, cf⟩ := o3.five
          have hl1 := o1.lt
          have hl3 := o3.lt
          rw [HM.out] at hj
          by_cases hjl : j < m
          · have hja : j < t.kids.length := by rw [HM.out]; exact hjl
            obtain ⟨ta, hta⟩ : ∃ ta, t.kids[j]? = some ta := ⟨_, List.getElem?_eq_getElem hja⟩
            have HTA : Hid (t.kids[j]? = some ta) := hta
            obtain ⟨g2, q2, aj, cj, rfl, hg2, f0, f1, f2, f3, f4, hk1⟩ := kids_cells HA.out hb j ta hta
            have hct : cntT ta ≤ N := Nat.le_trans (cnt_get hta) HC.out
            have CL := HI.out ta hct (goodTL_get _ HGK.out j ta hta) wr _ _ _ _ _ ⟨rfl, rfl, rfl, rfl, hk1.below hb⟩
            have hjq : (j : Int) < (m : Int) := by omega
            have hg2r : g2 < wr.heap.size := Nat.lt_of_lt_of_le hg2 hb.size
            have hszb := hb.size
            clear hta hk1 hct hja
            go_wp2_with fail
            refine CL.mono ?_
            clear CL
            rintro en wx ⟨k1, a1', b1, n1x, v1, rfl, hN1, hb1⟩
            obtain ⟨tk, htk⟩ : ∃ tk, mapTr (shf fr by_) ta = tk := ⟨_, rfl⟩
            rw [htk] at hN1
            have HTK : Hid (mapTr (shf fr by_) ta = tk) := htk
            clear htk
            obtain ⟨ax, cx, rfl⟩ := hN1.q.shape
            have hs1 := hb1.size
            have p1 := o1.below hb1
            have p2 := o2.below hb1
            have p3 := o3.below hb1
            have hbx1 : Below wx.heap.size wx ((wx.alloc (.cells #[.int .u8 k1, .int .i64 a1', .string b1, .int .u64 n1x, .slice ax tk.kids.length cx] 25)).alloc (.cells #[.int .u8 k1, .int .i64 a1', .string b1, .int .u64 n1x, .slice ax tk.kids.length cx] 25)) := ((Below.refl _ _).alloc (Nat.le_refl _) _).alloc (by rw [World.size_alloc]; omega) _
            have hcs := (hN1.row fun x => (x.alloc (.cells #[.int .u8 k1, .int .i64 a1', .string b1, .int .u64 n1x, .slice ax tk.kids.length cx] 25)).alloc (.cells #[.int .u8 k1, .int .i64 a1', .string b1, .int .u64 n1x, .slice ax tk.kids.length cx] 25)).cells
            have hbo := Own.new (wx.alloc (.cells #[.int .u8 k1, .int .i64 a1', .string b1, .int .u64 n1x, .slice ax tk.kids.length cx] 25)) #[.int .u8 k1, .int .i64 a1', .string b1, .int .u64 n1x, .slice ax tk.kids.length cx] 25
            rw [World.size_alloc] at hbo
            obtain ⟨X, hX⟩ : ∃ X, X = (wx.alloc (.cells #[.int .u8 k1, .int .i64 a1', .string b1, .int .u64 n1x, .slice ax tk.kids.length cx] 25)).alloc (.cells #[.int .u8 k1, .int .i64 a1', .string b1, .int .u64 n1x, .slice ax tk.kids.length cx] 25) := ⟨_, rfl⟩
            have hXs : wx.heap.size + 2 = X.heap.size := by rw [hX, World.size_alloc, World.size_alloc]
            have hbx : Below wr.heap.size wr X := by rw [hX]; exact hb1.trans (hbx1.mono hs1)
            have hkeep : ∀ (g : Nat) (cur : Array Value), w.heap.size + 3 ≤ g → Own wr g cur 25 → Own X g cur 25 := fun g cur _ ho => ho.below hbx
            have p3X : Own X (w.heap.size + 2) #[.int .u8 k, .int .i64 (wrap64 (x + by_)), .string s, .int .u64 n, .slice ao2 j cap2] 25 := o3.below hbx
            have p1X := o1.below hbx
            have p2X := o2.below hbx
            have hbX : Below w.heap.size w X := hb.trans (hbx.mono hb.size)
            have hal : ((t.kids.take j).map (mapTr (shf fr by_))).length + 1 ≤ 1000000000 := by rw [List.length_map, List.length_take]; omega
            have hlj : ((t.kids.take j).map (mapTr (shf fr by_))).length = j := by rw [List.length_map, List.length_take, HM.out]; omega
            obtain ⟨r0, r1, r2, r3, r4, rf⟩ := p3.five
            have hl3x := p3.lt
            have hbo2 : Own X (wx.heap.size + 1) #[.int .u8 k1, .int .i64 a1', .string b1, .int .u64 n1x, .slice ax tk.kids.length cx] 25 := by rw [hX]; exact hbo
            have hcs2 : ∃ F, Cells X [tk] [.int .u8 k1, .int .i64 a1', .string b1, .int .u64 n1x, .slice ax tk.kids.length cx] F ∧ F.Nodup ∧ ∀ g ∈ F, wr.heap.size ≤ g := by rw [hX]; exact hcs
            have hsX : wr.heap.size ≤ X.heap.size := hbx.size
            have hwo : ∀ kk : Nat, w.heap.size + 3 ≤ kk → w.heap.size ≤ kk := fun kk hk => by omega
            clear f0 f1 f2 f3 f4 hcs hbo hN1 hbx1
            go_wp2_with (first | (at_builtin; refine wpList_appN rfl (.tmp 37) (.tmp 39) rfl (w.heap.size + 3) _ ((t.kids.take j).map (mapTr (shf fr by_))) rfl wr hrow (by rw [← hX]; exact hkeep) [tk] 1 1 rfl (wx.heap.size + 1) rfl _ (by rw [← hX]; exact hbo2) (by rw [← hX]; exact hcs2) hal hsz (by rw [← hX]; exact hsX) ?_; intro v' wy hrow' gy hvb; rw [← hX] at gy; have oy3 := p3X.grown gy (fun e => by have := (hvb _ e.symm).1; omega); obtain ⟨aoy, capy, rfl⟩ := hrow'.shape) | (refine wpList_put1nodes rfl (.tmp 41) (.tmp 40) rfl rfl (w.heap.size + 2) 4 rfl rfl oy3 (by simp) ?_; intro wz oz gz))
            have hb2 := below_grown hbX gy (fun kk hk => hwo kk (hvb kk hk).1) (Nat.le_refl _)
            have hb3 := below_grown hb2 gz (fun kk hk => by have := Option.some.inj hk; omega) (Nat.le_refl _)
            have oz1 := (p1X.grown gy (fun e => by have := (hvb _ e.symm).1; omega)).grown gz (some_ne (by omega))
            have oz2 := (p2X.grown gy (fun e => by have := (hvb _ e.symm).1; omega)).grown gz (some_ne (by omega))
            have hrz := hrow'.grown gz (by omega)
            have hsz2 : w.heap.size + 3 ≤ wz.heap.size := by have := gy.size; have := gz.size; omega
            have hll : ((t.kids.take j).map (mapTr (shf fr by_)) ++ [tk]).length = j + 1 := by rw [List.length_append, hlj]; rfl
            have hlist : (t.kids.take (j + 1)).map (mapTr (shf fr by_)) = (t.kids.take j).map (mapTr (shf fr by_)) ++ [tk] := by rw [List.take_add_one, HTA.out, List.map_append, ← HTK.out]; rfl
            have hmin : min j t.kids.length + 1 = j + 1 := by rw [HM.out]; omega
            rw [hmin] at oz
            rw [hll] at hrz
            go_wp2
            go_roundw
            case rel => exact ⟨j + 1, aoy, capy, by rw [HM.out]; omega, by go_num, oz1, oz2, oz, by rw [hlist]; exact hrz, hb3, hsz2⟩
            case measure => simp [intOf]; omega
          · have hje : j = m := by omega
            subst hje
            have hjq : ¬ ((j : Int) < (j : Int)) := by omega
            obtain ⟨d0, d1, d2, d3, d4, df⟩ := o2.five
            have hl2 := o2.lt
            go_wp2_with (refine wpList_put5 rfl (.tmp 6) (.tmp 42) rfl rfl (w.heap.size + 1) rfl rfl o2 ⟨rfl, rfl, rfl, rfl, rfl⟩ ?_; intro wz oz gz)
            refine bodyPost_cell1 (t := 25) rfl rfl rfl oz Tryz.underlying25 rfl (by kernel_rfl) ?_
            have hb3 := below_grown hb gz (fun kk hk => by have := Option.some.inj hk; omega) (Nat.le_refl _)
            have hrz := (hrow.grown gz (by omega)).mono (show w.heap.size ≤ w.heap.size + 3 by omega)
            rw [List.take_of_length_le (by rw [HM.out]; omega)] at hrz
            obtain ⟨q1, q2, q3, q4⟩ := HE.out
            refine ⟨_, _, _, _, _, rfl, ?_, hb3⟩
            obtain ⟨tk, tat, ttx, tn, tks⟩ := t
            rw [mapTr_mk]
            exact ⟨q1, by have e : tat = _ := q2.symm; show _ = shf fr by_ tat; rw [e]; exact HX2.out.symm, q3, q4, hrz⟩
    exact main _ rfl
end Go.Proofs.YtkagkofgfjhfgaaGreatDoor
