import Derived.Test.YtmhnbklchnnbaaaGreatDoorJPart3
import Derived.Deep.RegionLaw
set_option maxHeartbeats 1000000
set_option maxRecDepth 100000
namespace Go.Proofs.YtmhnbklchnnbaaaGreatDoor
open Go.RowKit
set_option linter.unusedVariables false
theorem step_call1 {W : World} {ops : Array Oper} {o : Oper} {a : Act} {K : Act → World → Prop} {Q : Exit → Act → World → Prop} {X : Prop} (hgd : o.guard = none) (F : Nat) (x : Operand) (ty : TypeId)
    (ho : o.op = .call { callee := .value (.func F), args := #[x], argTypes := #[ty] }) (hfn : FnIs F) (v : Value) (hx : a.eval x = v) {R : Ending → World → Prop} (hc : Calls Tryz.prog F #[v] W R)
    (h : ∀ en w', R en w' → ∃ u, en = .returned u ∧ K (a.put o.dst u) w') : if Region.wanted o (yielded ops a.tmps) = true then Oper.wp Tryz.prog o a W K Q else X := by
  have hw : Region.wanted o (yielded ops a.tmps) = true := by simp [Region.wanted, hgd]
  rw [if_pos hw]
  have hf : ∀ (b : Array Value) (w : World), (callFunc F b).run Tryz.prog w = .ok (.enter F b) w := hfn
  have hfv : a.eval (.func F) = .func (.func F) #[] #[] := rfl
  unfold Oper.wp execOp
  simp only [ho]
  simp [resolve, invoke, hx, hfv, Deferred.ofValue]
  rw [hf, Oper.upon_enter]
  refine hc.mono ?_
  intro en w' hr
  obtain ⟨u, rfl, hk⟩ := h en w' hr
  exact hk
def ValsRel (w : World) (r E d : Nat) (expr : P Tree) (l : List Tree) (s' : St) (cnt g0 g1 B : Nat) (kd a : Int) (g : Nat) (v : Value) (wr : World) : Prop :=
  ∃ (acc : List Tree) (sl : St) (ao : Option Addr) (cap : Nat), v = .int .i64 (acc.length : Int) ∧ g + acc.length = cnt ∧ valsL expr g acc.length acc E d sl = some (l, s') ∧ RdAt wr r E d sl ∧ Own wr g1 #[.int .u8 kd, .int .i64 a, .string ⟨#[]⟩, .int .u64 0, .slice ao acc.length cap] 25 ∧ Own wr g0 #[.int .u8 0, .int .i64 0, .string ⟨#[]⟩, .int .u64 0, .slice none 0 0] 25 ∧ Row wr B (.slice ao acc.length cap) acc ∧ Kp r w wr ∧ B ≤ wr.heap.size
theorem pwithValues_as {expr : P Tree} {c : Nat} (HP : PartAs 37 expr c) (kd : Int) (kk : Nat) (hkd : kd = kk) (cnt : Nat) (hcnt : cnt ≤ 3) (cx : Int) (hcx : cx = cnt) : ∀ (w : World) (r E d : Nat) (s : St) (t : Tree) (s' : St), RdAt w r E d s → E ≤ 1048576 → d + (c + 1) ≤ 1000000000 → withP expr kk cnt E d s = some (t, s') →
    Calls Tryz.prog 111 #[.pointer (some ⟨r, 0, none⟩), .int .u8 kd, .int .i64 cx] w (NodeRet w r E d t s') := by
  subst hkd
  subst hcx
  intro w r E d s t s' hR hE hd hm
  have hrl := hR.lt
  have hK := Kp.refl r w
  obtain ⟨tk, s1, h1, h2⟩ := bnd_some hm
  obtain ⟨rfl, rfl⟩ := take_some h1
  obtain ⟨y, s2, h3, h4⟩ := bnd_some h2
  obtain ⟨rfl, rfl⟩ := ret_some h4
  obtain ⟨tk2, s3, h5, h6⟩ := bnd_some h3
  obtain ⟨l, s4, h7, h8⟩ := bnd_some h6
  obtain ⟨tk3, s5, h9, h10⟩ := bnd_some h8
  obtain ⟨rfl, rfl⟩ := ret_some h10
  unfold deeper at h7
  obtain ⟨k, tx, nn, a, e, ht⟩ := tokIs (nxt E s)
  obtain ⟨k', tx', nn', a', e', ht'⟩ := tokIs tk2
  clear hm h1 h2 h3 h4 h6 h8 h10
  go_enter Tryz.func111, Tryz.ntmps111
  go_upto_region 1 with fail
  have hzo := hR.lt
  have hko := hK.size
  have o := Own.new w #[.int .u8 0, .int .i64 0, .string ⟨#[]⟩, .int .u64 0, .slice none 0 0] 25
  replace hR := hR.alloc (.cells #[.int .u8 0, .int .i64 0, .string ⟨#[]⟩, .int .u64 0, .slice none 0 0] 25)
  replace hK := hK.alloc (.cells #[.int .u8 0, .int .i64 0, .string ⟨#[]⟩, .int .u64 0, .slice none 0 0] 25)
  generalize hw : w.alloc (.cells #[.int .u8 0, .int .i64 0, .string ⟨#[]⟩, .int .u64 0, .slice none 0 0] 25) = w1 at hR hK o ⊢
  clear hw
  have hs1 := o.lt
  go_wp2_with fail
  refine (ptake_as hR hE ht).mono ?_
  rintro en w2 ⟨rfl, hR2, hK2⟩
  have hs2 := (((Kp.refl r w1)).trans hK2).size
  replace o := (o).kp hK2 (by omega)
  replace hK := (hK).trans hK2
  replace hR := hR2
  clear hK2 hR2
  go_upto_region 2 with fail
  have hzn := hR.lt
  have hkn := hK.size
  have n := Own.new w2 #[.int .u8 (kk : Int), .int .i64 a, .string ⟨#[]⟩, .int .u64 0, .slice none 0 0] 25
  replace hR := hR.alloc (.cells #[.int .u8 (kk : Int), .int .i64 a, .string ⟨#[]⟩, .int .u64 0, .slice none 0 0] 25)
  replace hK := hK.alloc (.cells #[.int .u8 (kk : Int), .int .i64 a, .string ⟨#[]⟩, .int .u64 0, .slice none 0 0] 25)
  replace o := o.alloc (.cells #[.int .u8 (kk : Int), .int .i64 a, .string ⟨#[]⟩, .int .u64 0, .slice none 0 0] 25)
  generalize hw : w2.alloc (.cells #[.int .u8 (kk : Int), .int .i64 a, .string ⟨#[]⟩, .int .u64 0, .slice none 0 0] 25) = w3 at hR hK n o ⊢
  clear hw
  have hs3 := n.lt
  go_wp2_with fail
  refine (popen_as hR hE (by omega) ⟨#[40]⟩ h5 ht').mono ?_
  rintro en w4 ⟨rfl, hR2, hK2⟩
  have hs4 := (((Kp.refl r w3)).trans hK2).size
  replace o := (o).kp hK2 (by omega)
  replace n := (n).kp hK2 (by omega)
  replace hK := (hK).trans hK2
  replace hR := hR2
  clear hK2 hR2
  clear h5
  go_wp2_with fail
  have hrow : Row w4 w4.heap.size (.slice none 0 0) [] := Row.nil _ _
  have hB0 := Nat.le_refl w4.heap.size
  go_loopg [19] cnt (fun g v wr => ValsRel w r E (d + 1) expr l s4 cnt w.heap.size w2.heap.size w4.heap.size (kk : Int) a g v wr)
  case atStart => exact ⟨[], _, none, 0, rfl, by simp, h7, hR, n, o, hrow, hK, hB0⟩
  case round =>
    clear hR hK hrow n o h7 hB0
    obtain ⟨acc, sl, ao, cap, rfl, hgi, hm, hR, n, o, hrow, hK, hB⟩ := hrel
    cases gk with
    | zero =>
      have hic : acc.length = cnt := by omega
      obtain ⟨rfl, rfl⟩ := ret_some hm
      subst hic
      have hw0 := hK.size
      have hkn := hK.size
      have hlt : ¬ ((acc.length : Int) < (acc.length : Int)) := by omega
      have hrowi := KI.refl w4.heap.size wr.heap.size wr
      go_wp2_with fail
      refine (pshut_as hR hE (by omega) ⟨#[41]⟩ h9).mono ?_
      rintro en w5 ⟨⟨_, rfl⟩, hR2, hK2⟩
      have hs5 := (((Kp.refl r wr)).trans hK2).size
      replace o := (o).kp hK2 (by omega)
      replace n := (n).kp hK2 (by omega)
      replace hrowi := hrowi.kp (by omega) (((Kp.refl r _)).trans hK2) (by omega)
      replace hK := (hK).trans hK2
      replace hR := hR2
      clear hK2 hR2
      obtain ⟨n0, n1, n2, n3, n4, nf⟩ := n.five
      go_wp2_with (refine wpList_put5 rfl (.tmp 6) (.tmp 41) rfl rfl w.heap.size rfl rfl (o) ⟨rfl, rfl, rfl, rfl, rfl⟩ ?_; intro wz oz gz)
      refine bodyPost_cell1 (t := 25) rfl rfl rfl oz Tryz.underlying25 rfl (by kernel_rfl) ?_
      exact ⟨_, _, _, _, _, rfl, ⟨rfl, ht.2.2.2.1, rfl, rfl, (hrow.ki (hrowi.grown (by omega) gz (by omega)) (Nat.le_refl _)).mono (by omega)⟩, (hR).grown gz (some_lt (by omega)), (hK).grown gz (some_le (by omega))⟩
    | succ gk =>
      have hrowi := KI.refl w4.heap.size wr.heap.size wr
      have hw0 := hK.size
      have hlt : (acc.length : Int) < (cnt : Int) := by omega
      unfold valsL at hm
      by_cases hi0 : 0 < acc.length
      · rw [if_pos hi0] at hm
        obtain ⟨tk4, s6, h12, h13⟩ := bnd_some hm
        obtain ⟨t1, s7, h11, h14⟩ := bnd_some h13
        obtain ⟨q, hq⟩ : ∃ q, isT 4 [⟨#[44]⟩] (nxt E sl) = q := ⟨_, rfl⟩
        have hq2 : sg [44] (nxt E sl) = q := (isT_sg _ _).symm.trans hq
        have hn : needT q E (d + 1) sl = some (tk4, s6) := by rw [← hq2]; exact h12
        obtain ⟨kx, txx, nnx, ax, ex, htx⟩ := tokIs tk4
        have hi1 : (0 : Int) < (acc.length : Int) := by omega
        clear hm h12 h13 hq2 hi0
        go_wp2_with fail
        refine (psign_as (hR.alloc _) hE (xs := [⟨#[44]⟩]) (Own.new wr _ _) 1 rfl (by omega) q hq).mono ?_
        rintro en w5 ⟨rfl, hR2, hb⟩
        have hs5 := (((Kp.refl r wr).alloc _).trans (Kp.of hb)).size
        replace o := (o.alloc _).below hb
        replace n := (n.alloc _).below hb
        replace hrowi := hrowi.kp (by omega) (((Kp.refl r _).alloc _).trans (Kp.of hb)) (by omega)
        replace hK := (hK.alloc _).trans (Kp.of hb)
        replace hR := hR2
        clear hb hR2
        go_wp2_with fail
        refine (pneed_as hR hE q hn htx).mono ?_
        rintro en w6 ⟨rfl, hR2, hK2⟩
        have hs6 := (((Kp.refl r w5)).trans hK2).size
        replace o := (o).kp hK2 (by omega)
        replace n := (n).kp hK2 (by omega)
        replace hrowi := hrowi.kp (by omega) (((Kp.refl r _)).trans hK2) (by omega)
        replace hK := (hK).trans hK2
        replace hR := hR2
        clear hK2 hR2
        clear hq hn
        have hnb := n.lt
        obtain ⟨n0, n1, n2, n3, n4, nf⟩ := n.five
        have hrow2 := hrow.ki hrowi (Nat.le_refl _)
        go_wp2_with fail
        have hfx := fn_expr
        go_region_law (first | (refine step_call1 (by rfl) 37 (.tmp 33) 58 (by rfl) hfx _ (by rfl) (HP _ r E (d + 1) _ t1 s7 hR.drew hE (by omega) h11) ?_; rintro en w7 ⟨k1, a1, b1, n1x, v1, rfl, hN, hR7, hK7⟩; refine ⟨_, rfl, ?_⟩; have n7 := n.drew.kp hK7 (by omega); obtain ⟨m0, m1, m2, m3, m4, mf⟩ := n7.five; have hs7 := hK7.size; rw [World.size_drew] at hs7; have hl7 := n7.lt) | (refine step_appN (by rfl) (.tmp 32) (.tmp 35) (by rfl) w4.heap.size _ acc (by rfl) _ hrow2.drew (fun g cur hg ho => ho.kp (hK7.alloc _) (by omega)) [t1] 1 1 rfl w7.heap.size (by rfl) _ (Own.new w7 _ _) (hN.row fun x => x.alloc _).cells (by simp; omega) (by rw [World.size_drew]; omega) (by rw [World.size_drew, World.size_alloc]; omega) ?_; intro ao8 cap8 w8 hrow8 gz8 hvb8; have n8 := (n7.alloc _).grown gz8 (fun e => by have := (hvb8 _ e.symm).1; omega); obtain ⟨p0, p1, p2, p3, p4, pf⟩ := n8.five))
        all_goals
          have hR9 := ((hR7.alloc (.cells #[.int .u8 k1, .int .i64 a1, .string b1, .int .u64 n1x, v1] 25)).grown gz8 (fun k hk => by have := (hvb8 k hk).1; omega)).set (i := 4) (g := w2.heap.size) (by omega) (.slice ao8 (acc ++ [t1]).length cap8)
          have hK9 := (((hK.drew.trans (hK7.alloc (.cells #[.int .u8 k1, .int .i64 a1, .string b1, .int .u64 n1x, v1] 25))).grown gz8 (fun k hk => by have := (hvb8 k hk).1; omega)).set (g := w2.heap.size) (.inl (by omega)) 4 (.slice ao8 (acc ++ [t1]).length cap8))
          have o9 := (((o.drew.kp hK7 (by omega)).alloc (.cells #[.int .u8 k1, .int .i64 a1, .string b1, .int .u64 n1x, v1] 25)).grown gz8 (fun e => by have := (hvb8 _ e.symm).1; omega)).other (g' := w2.heap.size) (i := 4) (by omega) (.slice ao8 (acc ++ [t1]).length cap8)
          have n9 := n8.set 4 (.slice ao8 (acc ++ [t1]).length cap8)
          have hrow9 := hrow8.set (g := w2.heap.size) (i := 4) (by omega) (.slice ao8 (acc ++ [t1]).length cap8)
          have hs8 := gz8.size
          rw [World.size_alloc] at hs8
          have hs9 : w4.heap.size ≤ (w8.setCell ⟨w2.heap.size, 4, none⟩ (.slice ao8 (acc ++ [t1]).length cap8)).heap.size := by rw [World.size_setCell]; omega
          have hll : (acc ++ [t1]).length = acc.length + 1 := by simp
          rw [hll] at hR9 hK9 o9 n9 hrow9 hs9
          go_wp2
          go_roundg gk
          case rel => exact ⟨acc ++ [t1], s7, ao8, cap8, by rw [hll]; go_num, by rw [hll]; omega, by rw [hll]; exact h14, hR9, by rw [hll]; exact n9, o9, by rw [hll]; exact hrow9, hK9, hs9⟩
          case measure => omega
      · rw [if_neg hi0] at hm
        obtain ⟨t1, s7, h11, h14⟩ := bnd_some hm
        have hi2 : ¬ ((0 : Int) < (acc.length : Int)) := by omega
        clear hm hi0
        have hnb := n.lt
        obtain ⟨n0, n1, n2, n3, n4, nf⟩ := n.five
        have hrow2 := hrow.ki hrowi (Nat.le_refl _)
        go_wp2_with fail
        have hfx := fn_expr
        go_region_law (first | (refine step_call1 (by rfl) 37 (.tmp 33) 58 (by rfl) hfx _ (by rfl) (HP _ r E (d + 1) _ t1 s7 hR.drew hE (by omega) h11) ?_; rintro en w7 ⟨k1, a1, b1, n1x, v1, rfl, hN, hR7, hK7⟩; refine ⟨_, rfl, ?_⟩; have n7 := n.drew.kp hK7 (by omega); obtain ⟨m0, m1, m2, m3, m4, mf⟩ := n7.five; have hs7 := hK7.size; rw [World.size_drew] at hs7; have hl7 := n7.lt) | (refine step_appN (by rfl) (.tmp 32) (.tmp 35) (by rfl) w4.heap.size _ acc (by rfl) _ hrow2.drew (fun g cur hg ho => ho.kp (hK7.alloc _) (by omega)) [t1] 1 1 rfl w7.heap.size (by rfl) _ (Own.new w7 _ _) (hN.row fun x => x.alloc _).cells (by simp; omega) (by rw [World.size_drew]; omega) (by rw [World.size_drew, World.size_alloc]; omega) ?_; intro ao8 cap8 w8 hrow8 gz8 hvb8; have n8 := (n7.alloc _).grown gz8 (fun e => by have := (hvb8 _ e.symm).1; omega); obtain ⟨p0, p1, p2, p3, p4, pf⟩ := n8.five))
        all_goals
          have hR9 := ((hR7.alloc (.cells #[.int .u8 k1, .int .i64 a1, .string b1, .int .u64 n1x, v1] 25)).grown gz8 (fun k hk => by have := (hvb8 k hk).1; omega)).set (i := 4) (g := w2.heap.size) (by omega) (.slice ao8 (acc ++ [t1]).length cap8)
          have hK9 := (((hK.drew.trans (hK7.alloc (.cells #[.int .u8 k1, .int .i64 a1, .string b1, .int .u64 n1x, v1] 25))).grown gz8 (fun k hk => by have := (hvb8 k hk).1; omega)).set (g := w2.heap.size) (.inl (by omega)) 4 (.slice ao8 (acc ++ [t1]).length cap8))
          have o9 := (((o.drew.kp hK7 (by omega)).alloc (.cells #[.int .u8 k1, .int .i64 a1, .string b1, .int .u64 n1x, v1] 25)).grown gz8 (fun e => by have := (hvb8 _ e.symm).1; omega)).other (g' := w2.heap.size) (i := 4) (by omega) (.slice ao8 (acc ++ [t1]).length cap8)
          have n9 := n8.set 4 (.slice ao8 (acc ++ [t1]).length cap8)
          have hrow9 := hrow8.set (g := w2.heap.size) (i := 4) (by omega) (.slice ao8 (acc ++ [t1]).length cap8)
          have hs8 := gz8.size
          rw [World.size_alloc] at hs8
          have hs9 : w4.heap.size ≤ (w8.setCell ⟨w2.heap.size, 4, none⟩ (.slice ao8 (acc ++ [t1]).length cap8)).heap.size := by rw [World.size_setCell]; omega
          have hll : (acc ++ [t1]).length = acc.length + 1 := by simp
          rw [hll] at hR9 hK9 o9 n9 hrow9 hs9
          go_wp2
          go_roundg gk
          case rel => exact ⟨acc ++ [t1], s7, ao8, cap8, by rw [hll]; go_num, by rw [hll]; omega, by rw [hll]; exact h14, hR9, by rw [hll]; exact n9, o9, by rw [hll]; exact hrow9, hK9, hs9⟩
          case measure => omega
theorem isT_intW (t : Tok) : isT 1 [⟨#[105, 56]⟩, ⟨#[105, 51, 50]⟩, ⟨#[105, 54, 52]⟩] t = intW t := by
  simp only [isT, List.any_cons, List.any_nil, intW, wd, Bool.or_false, Bool.and_or_distrib_left, Bool.or_assoc]
  rfl
theorem pgiven_as {expr : P Tree} {c : Nat} (HP : PartAs 37 expr c) (f : Nat) (hf : f ≤ 100000000) : PartAs 100 (givenP f expr) (c + 1) := by
  intro w r E d s t s' hR hE hd hm
  have hrl := hR.lt
  have hK := Kp.refl r w
  replace hm := look_some hm
  obtain ⟨q, hq⟩ : ∃ q, intW (nxt E s) = q := ⟨_, rfl⟩
  rw [hq] at hm
  replace hq := (isT_intW _).trans hq
  go_enter Tryz.func100, Tryz.ntmps100
  go_upto_region 1 with fail
  have hzo := hR.lt
  have hko := hK.size
  have o := Own.new w #[.int .u8 0, .int .i64 0, .string ⟨#[]⟩, .int .u64 0, .slice none 0 0] 25
  replace hR := hR.alloc (.cells #[.int .u8 0, .int .i64 0, .string ⟨#[]⟩, .int .u64 0, .slice none 0 0] 25)
  replace hK := hK.alloc (.cells #[.int .u8 0, .int .i64 0, .string ⟨#[]⟩, .int .u64 0, .slice none 0 0] 25)
  generalize hw : w.alloc (.cells #[.int .u8 0, .int .i64 0, .string ⟨#[]⟩, .int .u64 0, .slice none 0 0] 25) = w1 at hR hK o ⊢
  clear hw
  have hs1 := o.lt
  go_wp2_with fail
  refine (pword_as (hR.alloc _) hE (xs := [⟨#[105, 56]⟩, ⟨#[105, 51, 50]⟩, ⟨#[105, 54, 52]⟩]) (Own.new w1 _ _) 3 rfl (by omega) q hq).mono ?_
  rintro en w2 ⟨rfl, hR2, hb⟩
  have hs2 := (((Kp.refl r w1).alloc _).trans (Kp.of hb)).size
  replace o := (o.alloc _).below hb
  replace hK := (hK.alloc _).trans (Kp.of hb)
  replace hR := hR2
  clear hb hR2
  clear hq
  cases q with
  | true =>
    rw [if_pos rfl] at hm
    obtain ⟨m, s1, h1, h2⟩ := bnd_some hm
    obtain ⟨rfl, rfl⟩ := ret_some h2
    obtain ⟨k, tx, nn, a, e, ht⟩ := tokIs (nxt E s)
    clear hm h2
    go_wp2_with fail
    refine (pnext_as hR hE ht).mono ?_
    rintro en w3 ⟨rfl, hb⟩
    have hR2 := hR.below hb
    have hs3 := (((Kp.refl r w2)).trans (Kp.of hb)).size
    replace o := (o).below hb
    replace hK := (hK).trans (Kp.of hb)
    replace hR := hR2
    clear hb hR2
    go_wp2_with fail
    refine (pwithValues_as HP 46 46 rfl 1 (by omega) 1 rfl _ _ _ _ _ _ _ hR hE hd h1).mono ?_
    rintro en w4 ⟨k1, a1, b1, n1x, v1, rfl, n1, hR2, hK2⟩
    obtain ⟨ao_n1, cap_n1, rfl⟩ := n1.2.2.2.2.shape
    have hs4 := (((Kp.refl r w3)).trans hK2).size
    replace o := (o).kp hK2 (by omega)
    replace hK := (hK).trans hK2
    replace hR := hR2
    clear hK2 hR2
    have n1i := KI.refl w3.heap.size w4.heap.size w4
    go_upto_region 4 with fail
    have hzm1 := hR.lt
    have hkm1 := hK.size
    have m1 := Own.new w4 #[.int .u8 k1, .int .i64 a1, .string b1, .int .u64 n1x, .slice ao_n1 m.kids.length cap_n1] 25
    replace hR := hR.alloc (.cells #[.int .u8 k1, .int .i64 a1, .string b1, .int .u64 n1x, .slice ao_n1 m.kids.length cap_n1] 25)
    replace hK := hK.alloc (.cells #[.int .u8 k1, .int .i64 a1, .string b1, .int .u64 n1x, .slice ao_n1 m.kids.length cap_n1] 25)
    replace o := o.alloc (.cells #[.int .u8 k1, .int .i64 a1, .string b1, .int .u64 n1x, .slice ao_n1 m.kids.length cap_n1] 25)
    replace n1i := n1i.alloc (by omega) (.cells #[.int .u8 k1, .int .i64 a1, .string b1, .int .u64 n1x, .slice ao_n1 m.kids.length cap_n1] 25)
    generalize hw : w4.alloc (.cells #[.int .u8 k1, .int .i64 a1, .string b1, .int .u64 n1x, .slice ao_n1 m.kids.length cap_n1] 25) = w5 at hR hK m1 o n1i ⊢
    clear hw
    have hs5 := m1.lt
    go_upto_region 5 with (first | (refine wpList_put1str rfl (.tmp 19) (.tmp 18) rfl rfl w4.heap.size 2 rfl rfl m1 (by simp) ?_; intro wq0 m1q0 gq0))
    have hs6 := gq0.size
    replace o := o.grown gq0 (some_ne (by omega))
    replace n1i := n1i.grown (by omega) gq0 (by omega)
    replace hR := hR.grown gq0 (some_lt (by omega))
    replace hK := hK.grown gq0 (some_le (by omega))
    replace m1 : Own wq0 w4.heap.size #[.int .u8 k1, .int .i64 a1, .string tx, .int .u64 n1x, .slice ao_n1 m.kids.length cap_n1] 25 := m1q0
    clear m1q0 gq0
    generalize hw : wq0 = w6 at *
    clear hw
    obtain ⟨m10, m11, m12, m13, m14, m1f⟩ := m1.five
    go_wp2_with (refine wpList_put5 rfl (.tmp 2) (.tmp 20) rfl rfl w.heap.size rfl rfl (o) ⟨rfl, rfl, rfl, rfl, rfl⟩ ?_; intro wz oz gz)
    refine bodyPost_cell1 (t := 25) rfl rfl rfl oz Tryz.underlying25 rfl (by kernel_rfl) ?_
    exact ⟨_, _, _, _, _, rfl, ⟨n1.1, n1.2.1, ht.2.1, n1.2.2.2.1, ((n1.ki (n1i.grown (by omega) gz (by omega)) (Nat.le_refl _)).mono (by omega)).2.2.2.2⟩, (hR).grown gz (some_lt (by omega)), (hK).grown gz (some_le (by omega))⟩
  | false =>
    rw [if_neg (by simp)] at hm
    obtain ⟨q, hq⟩ : ∃ q, isT 1 [⟨#[108, 101, 110]⟩] (nxt E s) = q := ⟨_, rfl⟩
    have hq2 : wd [108, 101, 110] (nxt E s) = q := (isT_wd _ _).symm.trans hq
    rw [hq2] at hm
    clear hq2
    go_wp2_with fail
    refine (pword_as (hR.alloc _) hE (xs := [⟨#[108, 101, 110]⟩]) (Own.new w2 _ _) 1 rfl (by omega) q hq).mono ?_
    rintro en w3 ⟨rfl, hR2, hb⟩
    have hs3 := (((Kp.refl r w2).alloc _).trans (Kp.of hb)).size
    replace o := (o.alloc _).below hb
    replace hK := (hK.alloc _).trans (Kp.of hb)
    replace hR := hR2
    clear hb hR2
    clear hq
    cases q with
    | true =>
      rw [if_pos rfl] at hm
      go_wp2_with fail
      refine (pwithValues_as HP 50 50 rfl 1 (by omega) 1 rfl _ _ _ _ _ _ _ hR hE hd hm).mono ?_
      rintro en w4 ⟨k1, a1, b1, n1x, v1, rfl, n1, hR2, hK2⟩
      have hs4 := (((Kp.refl r w3)).trans hK2).size
      replace o := (o).kp hK2 (by omega)
      replace hK := (hK).trans hK2
      replace hR := hR2
      clear hK2 hR2
      have n1i := KI.refl w3.heap.size w4.heap.size w4
      go_wp2_with (refine wpList_put5 rfl (.tmp 2) (.tmp 28) rfl rfl w.heap.size rfl rfl (o) ⟨rfl, rfl, rfl, rfl, n1.2.2.2.2.one1⟩ ?_; intro wz oz gz)
      refine bodyPost_cell1 (t := 25) rfl rfl rfl oz Tryz.underlying25 rfl (by kernel_rfl) ?_
      exact ⟨_, _, _, _, _, rfl, (n1.ki (n1i.grown (by omega) gz (by omega)) (Nat.le_refl _)).mono (by omega), (hR).grown gz (some_lt (by omega)), (hK).grown gz (some_le (by omega))⟩
    | false =>
      rw [if_neg (by simp)] at hm
      obtain ⟨q, hq⟩ : ∃ q, isT 1 [⟨#[99, 117, 116]⟩] (nxt E s) = q := ⟨_, rfl⟩
      have hq2 : wd [99, 117, 116] (nxt E s) = q := (isT_wd _ _).symm.trans hq
      rw [hq2] at hm
      clear hq2
      go_wp2_with fail
      refine (pword_as (hR.alloc _) hE (xs := [⟨#[99, 117, 116]⟩]) (Own.new w3 _ _) 1 rfl (by omega) q hq).mono ?_
      rintro en w4 ⟨rfl, hR2, hb⟩
      have hs4 := (((Kp.refl r w3).alloc _).trans (Kp.of hb)).size
      replace o := (o.alloc _).below hb
      replace hK := (hK.alloc _).trans (Kp.of hb)
      replace hR := hR2
      clear hb hR2
      clear hq
      cases q with
      | true =>
        rw [if_pos rfl] at hm
        go_wp2_with fail
        refine (pwithValues_as HP 51 51 rfl 3 (by omega) 3 rfl _ _ _ _ _ _ _ hR hE hd hm).mono ?_
        rintro en w5 ⟨k1, a1, b1, n1x, v1, rfl, n1, hR2, hK2⟩
        have hs5 := (((Kp.refl r w4)).trans hK2).size
        replace o := (o).kp hK2 (by omega)
        replace hK := (hK).trans hK2
        replace hR := hR2
        clear hK2 hR2
        have n1i := KI.refl w4.heap.size w5.heap.size w5
        go_wp2_with (refine wpList_put5 rfl (.tmp 2) (.tmp 36) rfl rfl w.heap.size rfl rfl (o) ⟨rfl, rfl, rfl, rfl, n1.2.2.2.2.one1⟩ ?_; intro wz oz gz)
        refine bodyPost_cell1 (t := 25) rfl rfl rfl oz Tryz.underlying25 rfl (by kernel_rfl) ?_
        exact ⟨_, _, _, _, _, rfl, (n1.ki (n1i.grown (by omega) gz (by omega)) (Nat.le_refl _)).mono (by omega), (hR).grown gz (some_lt (by omega)), (hK).grown gz (some_le (by omega))⟩
      | false =>
        rw [if_neg (by simp)] at hm
        obtain ⟨q, hq⟩ : ∃ q, isT 1 [⟨#[98, 121, 116, 101]⟩] (nxt E s) = q := ⟨_, rfl⟩
        have hq2 : wd [98, 121, 116, 101] (nxt E s) = q := (isT_wd _ _).symm.trans hq
        rw [hq2] at hm
        clear hq2
        go_wp2_with fail
        refine (pword_as (hR.alloc _) hE (xs := [⟨#[98, 121, 116, 101]⟩]) (Own.new w4 _ _) 1 rfl (by omega) q hq).mono ?_
        rintro en w5 ⟨rfl, hR2, hb⟩
        have hs5 := (((Kp.refl r w4).alloc _).trans (Kp.of hb)).size
        replace o := (o.alloc _).below hb
        replace hK := (hK.alloc _).trans (Kp.of hb)
        replace hR := hR2
        clear hb hR2
        clear hq
        cases q with
        | true =>
          rw [if_pos rfl] at hm
          go_wp2_with fail
          refine (pwithValues_as HP 52 52 rfl 1 (by omega) 1 rfl _ _ _ _ _ _ _ hR hE hd hm).mono ?_
          rintro en w6 ⟨k1, a1, b1, n1x, v1, rfl, n1, hR2, hK2⟩
          have hs6 := (((Kp.refl r w5)).trans hK2).size
          replace o := (o).kp hK2 (by omega)
          replace hK := (hK).trans hK2
          replace hR := hR2
          clear hK2 hR2
          have n1i := KI.refl w5.heap.size w6.heap.size w6
          go_wp2_with (refine wpList_put5 rfl (.tmp 2) (.tmp 44) rfl rfl w.heap.size rfl rfl (o) ⟨rfl, rfl, rfl, rfl, n1.2.2.2.2.one1⟩ ?_; intro wz oz gz)
          refine bodyPost_cell1 (t := 25) rfl rfl rfl oz Tryz.underlying25 rfl (by kernel_rfl) ?_
          exact ⟨_, _, _, _, _, rfl, (n1.ki (n1i.grown (by omega) gz (by omega)) (Nat.le_refl _)).mono (by omega), (hR).grown gz (some_lt (by omega)), (hK).grown gz (some_le (by omega))⟩
        | false =>
          rw [if_neg (by simp)] at hm
          obtain ⟨q, hq⟩ : ∃ q, isT 1 [⟨#[112, 111, 112]⟩] (nxt E s) = q := ⟨_, rfl⟩
          have hq2 : wd [112, 111, 112] (nxt E s) = q := (isT_wd _ _).symm.trans hq
          rw [hq2] at hm
          clear hq2
          go_wp2_with fail
          refine (pword_as (hR.alloc _) hE (xs := [⟨#[112, 111, 112]⟩]) (Own.new w5 _ _) 1 rfl (by omega) q hq).mono ?_
          rintro en w6 ⟨rfl, hR2, hb⟩
          have hs6 := (((Kp.refl r w5).alloc _).trans (Kp.of hb)).size
          replace o := (o.alloc _).below hb
          replace hK := (hK.alloc _).trans (Kp.of hb)
          replace hR := hR2
          clear hb hR2
          clear hq
          cases q with
          | true =>
            rw [if_pos rfl] at hm
            go_wp2_with fail
            refine (pwithValues_as HP 53 53 rfl 1 (by omega) 1 rfl _ _ _ _ _ _ _ hR hE hd hm).mono ?_
            rintro en w7 ⟨k1, a1, b1, n1x, v1, rfl, n1, hR2, hK2⟩
            have hs7 := (((Kp.refl r w6)).trans hK2).size
            replace o := (o).kp hK2 (by omega)
            replace hK := (hK).trans hK2
            replace hR := hR2
            clear hK2 hR2
            have n1i := KI.refl w6.heap.size w7.heap.size w7
            go_wp2_with (refine wpList_put5 rfl (.tmp 2) (.tmp 52) rfl rfl w.heap.size rfl rfl (o) ⟨rfl, rfl, rfl, rfl, n1.2.2.2.2.one1⟩ ?_; intro wz oz gz)
            refine bodyPost_cell1 (t := 25) rfl rfl rfl oz Tryz.underlying25 rfl (by kernel_rfl) ?_
            exact ⟨_, _, _, _, _, rfl, (n1.ki (n1i.grown (by omega) gz (by omega)) (Nat.le_refl _)).mono (by omega), (hR).grown gz (some_lt (by omega)), (hK).grown gz (some_le (by omega))⟩
          | false =>
            rw [if_neg (by simp)] at hm
            go_wp2_with fail
            refine (pnameOrCall_as HP f hf _ _ _ _ _ _ _ hR hE hd hm).mono ?_
            rintro en w7 ⟨k1, a1, b1, n1x, v1, rfl, n1, hR2, hK2⟩
            have hs7 := (((Kp.refl r w6)).trans hK2).size
            replace o := (o).kp hK2 (by omega)
            replace hK := (hK).trans hK2
            replace hR := hR2
            clear hK2 hR2
            have n1i := KI.refl w6.heap.size w7.heap.size w7
            go_wp2_with (refine wpList_put5 rfl (.tmp 2) (.tmp 54) rfl rfl w.heap.size rfl rfl (o) ⟨rfl, rfl, rfl, rfl, n1.2.2.2.2.one1⟩ ?_; intro wz oz gz)
            refine bodyPost_cell1 (t := 25) rfl rfl rfl oz Tryz.underlying25 rfl (by kernel_rfl) ?_
            exact ⟨_, _, _, _, _, rfl, (n1.ki (n1i.grown (by omega) gz (by omega)) (Nat.le_refl _)).mono (by omega), (hR).grown gz (some_lt (by omega)), (hK).grown gz (some_le (by omega))⟩
end Go.Proofs.YtmhnbklchnnbaaaGreatDoor
