/-
  Ra, what is reached of it.
-/
import Derived.Test.YtkmmnocooibljaaGreatDoorLz
import Derived.Test.YtkmmnocooibljaaGreatDoorRnq
import Derived.Deep.RegionHeld3
import Derived.Deep.LoopGhost
namespace Go.Proofs.YtkmmnocooibljaaGreatDoor
open Go.ChangeShapes Go.WideShapes Go.ChangeAt Go.RowKit Go.Deep
set_option linter.unusedVariables false

def joinA (acc : List (Int × Int)) (q : List (Int × Int) × St) : List (Int × Int) × St := if q.2.2 ≠ 0 then ([], q.2) else (acc ++ q.1, q.2)
theorem joinA_nil (k : Nm) (xs : List Nat) (n : Nat) (s : St) : armsR k xs n s = joinA [] (armsR k xs n s) := by
  unfold joinA
  split
  · rename_i h
    cases n with
    | zero => rfl
    | succ n =>
      unfold armsR at h ⊢
      simp only at h ⊢
      split
      · rfl
      · rename_i h1
        rw [if_neg h1] at h
        split
        · rfl
        · rename_i h2; rw [if_neg h2] at h; exact absurd h h2
  · simp
theorem joinA_bad {k : Nm} {xs : List Nat} {n : Nat} {s : St} {acc : List (Int × Int)} (h : (nPlace.rd xs (k.rd xs s).2).2.2 ≠ 0) : joinA acc (armsR k xs (n + 1) s) = ([], (nPlace.rd xs (k.rd xs s).2).2) := by
  have e : armsR k xs (n + 1) s = ([], (nPlace.rd xs (k.rd xs s).2).2) := by unfold armsR; simp only; rw [if_pos h]
  rw [e]; unfold joinA; rw [if_pos h]
theorem joinA_good {k : Nm} {xs : List Nat} {n : Nat} {s : St} {acc : List (Int × Int)} (h : (nPlace.rd xs (k.rd xs s).2).2.2 = 0) : joinA acc (armsR k xs (n + 1) s) = joinA (acc ++ [((k.rd xs s).1, (nPlace.rd xs (k.rd xs s).2).1)]) (armsR k xs n (nPlace.rd xs (k.rd xs s).2).2) := by
  conv => lhs; unfold armsR
  simp only
  rw [if_neg (by omega)]
  unfold joinA
  by_cases h2 : (armsR k xs n (nPlace.rd xs (k.rd xs s).2).2).2.2 ≠ 0
  · rw [if_pos h2, if_pos h2, if_pos h2]
  · rw [if_neg h2, if_neg h2, if_neg h2]; simp
theorem short_rd (xs : List Nat) (s : St) : 0 ≤ (nShort.rd xs s).1 ∧ (nShort.rd xs s).1 ≤ 65535 := by
  unfold Nm.rd
  split
  · exact ⟨by simp, by simp⟩
  · split
    · exact ⟨by simp, by simp⟩
    · split
      · rename_i h; exact of_decide_eq_true h
      · exact ⟨by simp, by simp⟩
structure ArRel (w : World) (r : Nat) (a : Option Addr) (L cap : Nat) (k : Nm) (f : Nat) (xs : List Nat) (g6 g7 n : Nat) (R : List (Int × Int) × St) (g : Nat) (v i : Value) (wr : World) : Prop where
  ex : ∃ (acc : List (Int × Int)) (s1 : St), acc.length + g = n ∧ i = .int .i64 (acc.length : Int) ∧ Rw wr 51 2 v acc.length (armC acc) ∧ (∀ b, v.ownBlock = some b → w.heap.size ≤ b) ∧ s1.1 ≤ xs.length ∧ (s1.2 ≠ 0 → g = 0 ∧ acc = []) ∧
    Own wr r (rdC a L cap s1) 104 ∧ R = joinA acc (armsR k xs g s1)
  o6 : Own wr g6 #[.int .i64 8, .int .u8 3, .func (.func f) #[] #[]] 98
  o7 : Own wr g7 #[.int .i64 4, .int .u8 0, .func (.func 124) #[] #[]] 98
  fr : Fr (fun b => b = r) w wr
def ArRet (w : World) (r : Nat) (a : Option Addr) (L cap : Nat) (R : List (Int × Int) × St) (e : Ending) (w' : World) : Prop :=
  ∃ v, e = .returned v ∧ Rw w' 51 2 v R.1.length (armC R.1) ∧ (∀ b, v.ownBlock = some b → w.heap.size ≤ b) ∧ RdRet r a L cap R.2 w w'
theorem take_lit {l : List Oper} {Q : Exit → Act → World → Prop} {md : Region.Mode} {S : World → Prop} {i : Nat} {oi : Oper} {v : Value} {fuel : Nat} {listed : Array Bool} {a : Act} {w : World} (hi : l[i]? = some oi)
    (hs : Region.noSelect l.toArray = true) (hf : Region.free md l.toArray listed i = true) (hr : (Region.ready md l.toArray listed).contains i = true)
    (hQ : ∀ c a w, Q (.panic c) (a.put oi.dst v) w → Q (.panic c) a w) (hy : YieldsIf Tryz.prog l.toArray S oi v a) (hS : S w)
    (h : wpAnyH Tryz.prog md l.toArray Q S fuel (listed.setIfInBounds i true) (a.put oi.dst v) w) : wpAnyH Tryz.prog md l.toArray Q S (fuel + 1) listed a w :=
  wpAnyH_take (by simpa using hi) hs hf hr hQ hy hS h
theorem ready_lit {l : List Oper} {Q : Exit → Act → World → Prop} {md : Region.Mode} {S : World → Prop} {fuel : Nat} {listed : Array Bool} {a : Act} {w : World} {i : Nat} {o : Oper} (ho : l[i]? = some o)
    (h : ∀ K' : Act → World → Prop, Shut (∀ a w, S w → (S w → wpAnyH Tryz.prog md l.toArray Q S fuel (listed.setIfInBounds i true) a w) → K' a w) → if Region.wanted o (yielded l.toArray a.tmps) = true then Oper.wp Tryz.prog o a w K' Q else K' (a.put o.dst undef) w) :
    AllReadyH Tryz.prog md l.toArray Q S fuel listed a w [i] :=
  AllReadyH.cons (by simpa using ho) h AllReadyH.nil
theorem ready_lit2 {l : List Oper} {Q : Exit → Act → World → Prop} {md : Region.Mode} {S : World → Prop} {fuel : Nat} {listed : Array Bool} {a : Act} {w : World} {i j : Nat} {o p : Oper} (ho : l[i]? = some o)
    (h : ∀ K' : Act → World → Prop, Shut (∀ a w, S w → (S w → wpAnyH Tryz.prog md l.toArray Q S fuel (listed.setIfInBounds i true) a w) → K' a w) → if Region.wanted o (yielded l.toArray a.tmps) = true then Oper.wp Tryz.prog o a w K' Q else K' (a.put o.dst undef) w)
    (hp : l[j]? = some p)
    (h2 : ∀ K' : Act → World → Prop, Shut (∀ a w, S w → (S w → wpAnyH Tryz.prog md l.toArray Q S fuel (listed.setIfInBounds j true) a w) → K' a w) → if Region.wanted p (yielded l.toArray a.tmps) = true then Oper.wp Tryz.prog p a w K' Q else K' (a.put p.dst undef) w) :
    AllReadyH Tryz.prog md l.toArray Q S fuel listed a w [i, j] :=
  AllReadyH.cons (by simpa using ho) h (AllReadyH.cons (by simpa using hp) h2 AllReadyH.nil)
theorem Own.set2 {w : World} {g : Nat} {t : TypeId} {a b : Value} (h : Own w g #[a, b] t) (x y : Int) : Own ((w.setCell ⟨g, 0, none⟩ (.int .i64 x)).setCell ⟨g, 1, none⟩ (.int .i64 y)) g #[.int .i64 x, .int .i64 y] t := by
  have := (h.set 0 (.int .i64 x)).set 1 (.int .i64 y)
  simpa using this
theorem Env.new2 {r : Nat} {a : Option Addr} {L cap f g6 g7 : Nat} {v : Value} {acc : List (Int × Int)} {w5 : World} {xs : List Nat} {s : St} {W : World} (h : Env r a L cap f g6 g7 v acc w5 xs s W) {g : Nat} (hn : Own W g #[.int .i64 0, .int .i64 0] 51) (x y : Int) (hg : w5.heap.size ≤ g) (ha : ∀ b off, a = some ⟨b, off, none⟩ → xs ≠ [] → b < w5.heap.size) (hv : ∀ b, v.ownBlock = some b → b ≠ g) :
    Env r a L cap f g6 g7 v acc w5 xs s ((W.setCell ⟨g, 0, none⟩ (.int .i64 x)).setCell ⟨g, 1, none⟩ (.int .i64 y)) := by
  have f1 : Fr (fun b => b = g) W ((W.setCell ⟨g, 0, none⟩ (.int .i64 x)).setCell ⟨g, 1, none⟩ (.int .i64 y)) := ((Fr.refl (fun b => b = g) W).set (g := g) (.inr rfl) 0 _).set (g := g) (.inr rfl) 1 _
  refine ⟨h.own.fr f1 (fun e => h.own.ne hn (by decide) e), h.o6.fr f1 (fun e => h.o6.ne hn (by decide) e), h.o7.fr f1 (fun e => h.o7.ne hn (by decide) e), h.row.fr f1 (fun b q e => hv b q e), (h.fr.set (g := g) (.inl hg) 0 _).set (g := g) (.inl hg) 1 _, ?_⟩
  refine ⟨h.lies.1, h.lies.2.1, ?_⟩
  rcases h.lies.2.2 with h0 | ⟨b, off, rfl, hc⟩
  · exact .inl h0
  · by_cases hx : xs = []
    · exact .inl hx
    · exact (h.lies.fr f1 (fun b' off' e q => by cases e; have := ha b off rfl hx; omega)).2.2
set_option maxHeartbeats 4000000 in
set_option maxRecDepth 100000 in
theorem rarms_as (x : Int) (hx : x = 0 ∨ x = 1 ∨ x = 2 ∨ x = 3) {w : World} {r : Nat} {a : Option Addr} {L cap : Nat} {xs : List Nat} (s : St) (ho : Own w r (rdC a L cap s) 104) (hl : Lies w a xs) (hL : L = xs.length) (hs : s.1 ≤ L) (ha : ∀ b off, a = some ⟨b, off, none⟩ → ¬ b = r) :
    Calls Tryz.prog 62 #[ptr r, .int .u8 x] w (ArRet w r a L cap (armsR (nVal x) xs (nShort.rd xs s).1.toNat (nShort.rd xs s).2)) := by
  obtain ⟨f, hf, hval⟩ := value_as x hx
  obtain ⟨R, HRR⟩ : ∃ R, Hid (armsR (nVal x) xs (nShort.rd xs s).1.toNat (nShort.rd xs s).2 = R) := ⟨_, rfl⟩
  rw [HRR.out]
  have hrl := ho.lt
  have HA : Hid (∀ b off, a = some ⟨b, off, none⟩ → ¬ b = r) := ha
  have h8 : (nVal x).sz = 8 := val_sz x
  have HL : Hid (L = xs.length) := hL
  have hsx : s.1 ≤ xs.length := by omega
  have hn1 := short_rd xs s
  obtain ⟨n, hn⟩ : ∃ n : Nat, (nShort.rd xs s).1 = (n : Int) := Int.eq_ofNat_of_zero_le hn1.1
  have hn65 : n ≤ 65535 := by omega
  have HN : Hid ((nShort.rd xs s).1 = (n : Int)) := hn
  clear ha hn1 hn hx hs hL
  go_enter Tryz.func62, Tryz.ntmps62
  go_wp2_with fail
  refine (hval _).mono ?_
  rintro e w1 ⟨rfl, b1⟩
  replace ho := ho.below b1
  replace hl := hl.fr (F := fun _ => False) (Fr.of b1) (fun _ _ _ q => q)
  have hfr : Fr (fun b => b = r) w w1 := Fr.of b1
  clear b1 hval
  go_wp2_with fail
  refine (place_any _).mono ?_
  rintro e w2 ⟨rfl, b2⟩
  replace ho := ho.below b2
  replace hl := hl.fr (F := fun _ => False) (Fr.of b2) (fun _ _ _ q => q)
  replace hfr := hfr.trans (Fr.of b2)
  clear b2
  have o6 := (Own.new w2 #[.int .i64 8, .int .u8 3, .func (.func f) #[] #[]] 98).alloc (.cells #[.int .i64 4, .int .u8 0, .func (.func 124) #[] #[]] 98)
  have o7 := Own.new (w2.alloc (.cells #[.int .i64 8, .int .u8 3, .func (.func f) #[] #[]] 98)) #[.int .i64 4, .int .u8 0, .func (.func 124) #[] #[]] 98
  rw [World.size_alloc] at o7
  replace ho := (ho.alloc (.cells #[.int .i64 8, .int .u8 3, .func (.func f) #[] #[]] 98)).alloc (.cells #[.int .i64 4, .int .u8 0, .func (.func 124) #[] #[]] 98)
  have hfr3 := (hfr.alloc (.cells #[.int .i64 8, .int .u8 3, .func (.func f) #[] #[]] 98)).alloc (.cells #[.int .i64 4, .int .u8 0, .func (.func 124) #[] #[]] 98)
  replace hl := hl.fr (F := fun _ => False) (((Fr.refl _ w2).alloc (.cells #[.int .i64 8, .int .u8 3, .func (.func f) #[] #[]] 98)).alloc (.cells #[.int .i64 4, .int .u8 0, .func (.func 124) #[] #[]] 98)) (fun _ _ _ q => q)
  have hws := hfr.size
  have hr6 : ¬ w2.heap.size = r := by omega
  have hr7 : ¬ w2.heap.size + 1 = r := by omega
  clear hfr
  go_upto_region 3 with fail
  generalize (w2.alloc (.cells #[.int .i64 8, .int .u8 3, .func (.func f) #[] #[]] 98)).alloc (.cells #[.int .i64 4, .int .u8 0, .func (.func 124) #[] #[]] 98) = w3 at *
  go_wp2_with fail
  refine (short_any _).mono ?_
  rintro e w4 ⟨rfl, b4⟩
  replace ho := ho.below b4
  replace o6 := o6.below b4
  replace o7 := o7.below b4
  replace hl := hl.fr (F := fun _ => False) (Fr.of b4) (fun _ _ _ q => q)
  replace hfr3 := hfr3.trans (Fr.of b4)
  clear b4
  go_wp2_with fail
  refine (rnum_as numShort s ho hl HL.out (by rw [HL.out]; exact hsx)).mono ?_
  rintro e w5 ⟨rfl, ho5, f5⟩
  rw [HN.out]
  replace o6 := o6.fr f5 hr6
  replace o7 := o7.fr f5 hr7
  replace hl := hl.fr f5 HA.out
  replace hfr3 := hfr3.trans f5
  have hs5 : (nShort.rd xs s).2.1 ≤ xs.length := rd_le hsx
  have hbad : (nShort.rd xs s).2.2 ≠ 0 → n = 0 := by
    intro hb
    have : (nShort.rd xs s).1 = 0 := by
      revert hb
      unfold Nm.rd
      split
      · intro _; rfl
      · split
        · intro _; rfl
        · split
          · intro q; exact absurd rfl q
          · intro _; rfl
    have := HN.out; omega
  have HRR2 : Hid (R = armsR (nVal x) xs n (nShort.rd xs s).2) := by unfold Hid; rw [← HRR.out, HN.out, Int.toNat_natCast]
  clear HRR
  generalize (nShort.rd xs s).2 = s5 at *
  clear f5 ho
  have REL : Hid (ArRel w5 r a L cap (nVal x) f xs w2.heap.size (w2.heap.size + 1) n R n (.slice none 0 0) (.int .i64 0) w5) :=
    ⟨⟨[], s5, by simp, rfl, World.ownsRow_nil _ _ _ _, by simp [Value.ownBlock], hs5, fun q => ⟨hbad q, rfl⟩, ho5, HRR2.out.trans (joinA_nil _ _ _ _)⟩, o6, o7, Fr.refl _ _⟩
  have hLies : Hid (Lies w5 a xs) := hl
  have HF5 : Hid (Fr (fun b => b = r) w w5) := hfr3
  have HLW : Hid (∀ wr, Fr (fun b => b = r) w5 wr → Lies wr a xs) := fun wr hq => hl.fr hq HA.out
  clear ho5 o6 o7 hfr3 hl hs5 hbad HN
  go_wp2_with fail
  go_loopg [5, 15] n (fun g v i wr => ArRel w5 r a L cap (nVal x) f xs w2.heap.size (w2.heap.size + 1) n R g v i wr)
  case atStart => exact REL.out
  case round =>
    obtain ⟨⟨acc, s1, hlen, rfl, hrow, hnew, hsl, hbd, ho, hR⟩, o6, o7, hf5⟩ := hrel
    have hfr := HF5.out.trans hf5
    have hlr := HLW.out wr hf5
    obtain ⟨ao, cp, rfl, -⟩ := hrow.shape
    cases gk with
    | zero =>
      have hd : decide ((acc.length : Int) < n) = false := by simp; omega
      have hR2 : R = (acc, s1) := by
        rw [hR]; unfold joinA armsR
        by_cases q : s1.2 ≠ 0
        · rw [if_pos q, (hbd q).2]
        · rw [if_neg q]; simp
      have HZ : Hid (ArRet w r a L cap R (.returned (.slice ao acc.length cp)) wr) := by
        rw [Hid, hR2]; exact ⟨_, rfl, hrow, fun b q => Nat.le_trans HF5.out.size (hnew b q), ho, hfr⟩
      clear hR hR2 hrow hnew ho o6 o7 hfr hf5 hlr hbd hlen hsl REL HF5 HLW hLies
      generalize (acc.length : Int) = K at *
      go_wp2
      go_ret
      exact HZ.out
    | succ gk =>
      have hs0 : s1.2 = 0 := by
        by_cases q : s1.2 = 0
        · exact q
        · exact absurd (hbd q).1 (by omega)
      have hd : decide ((acc.length : Int) < n) = true := by simp; omega
      have hfk := hf
      cases e1 : (nVal x).rd xs s1 with
      | mk V1 s2 =>
      cases e2 : nPlace.rd xs s2 with
      | mk V2 s3 =>
      have hs2 : s2.1 ≤ xs.length := by have := rd_le (k := nVal x) hsl; rw [e1] at this; exact this
      have hs3 : s3.1 ≤ xs.length := by have := rd_le (k := nPlace) hs2; rw [e2] at this; exact this
      have C1 : Hid (∀ W, Own W r (rdC a L cap s1) 104 → Lies W a xs → Calls Tryz.prog 61 #[ptr r, numV 8 3 f] W fun e w' => e = .returned (.int .i64 V1) ∧ RdRet r a L cap s2 W w') := by
        intro W h1 h2
        have := rnum_as hf s1 h1 h2 HL.out (by rw [HL.out]; exact hsl)
        rw [e1, h8] at this
        exact this
      have C2 : Hid (∀ W, Own W r (rdC a L cap s2) 104 → Lies W a xs → Calls Tryz.prog 61 #[ptr r, numV 4 0 124] W fun e w' => e = .returned (.int .i64 V2) ∧ RdRet r a L cap s3 W w') := by
        intro W h1 h2
        have := rnum_as numPlace s2 h1 h2 HL.out (by rw [HL.out]; exact hs2)
        rw [e2] at this
        exact this
      have hbig : acc.length < 65535 := by omega
      have HG : Hid (s3.2 = 0 → R = joinA (acc ++ [(V1, V2)]) (armsR (nVal x) xs gk s3)) := by
        intro q
        have := joinA_good (k := nVal x) (xs := xs) (n := gk) (s := s1) (acc := acc) (by rw [e1, e2]; exact q)
        rw [e1] at this
        simp only [e2] at this
        rw [hR, this]
      have HB : Hid (s3.2 ≠ 0 → R = ([], s3)) := by
        intro q
        have := joinA_bad (k := nVal x) (xs := xs) (n := gk) (s := s1) (acc := acc) (by rw [e1, e2]; exact q)
        rw [e1] at this
        simp only [e2] at this
        rw [hR, this]
      have HLEN : Hid (acc.length + (gk + 1) = n) := hlen
      have HNEW : Hid (∀ b, (Value.slice ao acc.length cp).ownBlock = some b → w5.heap.size ≤ b) := hnew
      have E0 : Env r a L cap f w2.heap.size (w2.heap.size + 1) (.slice ao acc.length cp) acc w5 xs s1 wr.drew := Env.drew ⟨ho, o6, o7, hrow, hf5, hlr⟩
      have hlt : acc.length < n := by omega
      have hwr : r < wr.heap.size := ho.lt
      have hz := E0.cells
      have HAB : Hid (∀ b off, a = some ⟨b, off, none⟩ → xs ≠ [] → b < w5.heap.size) := by
        intro b off e hx
        rcases hLies.out.2.2 with h0 | ⟨b', off', e', hc⟩
        · exact absurd h0 hx
        · rw [e] at e'; cases e'; exact World.block_lt_of_cell? w5 _ (hc 0 (List.length_pos_iff.2 hx))
      have hwn : ¬ wr.heap.size = r := by omega
      have HFW : Hid (Fr (fun b => b = r) w w5) := HF5.out
      clear hR hbd hlen hnew ho hlr hrow hf5 hfr o6 o7 REL HF5 hLies hs0 e1 e2 hd
      go_upto_region 5 with fail
      go_cut [8] from 16 to 33 (fun q wx => ∃ g, q = .pointer (some ⟨g, 0, none⟩) ∧ Own wx g #[.int .i64 V1, .int .i64 V2] 51 ∧ Env r a L cap f w2.heap.size (w2.heap.size + 1) (.slice ao acc.length cp) acc w5 xs s3 wx ∧ ¬ g = r)
      case first =>
        /- REGION5 -/
        refine wp_region_noPanic ?_
        refine wp_region_held_drew (S := fun w' => w'.cell? ⟨w2.heap.size, 0, none⟩ = some (.int .i64 8) ∧ w'.cell? ⟨w2.heap.size, 1, none⟩ = some (.int .u8 3) ∧ w'.cell? ⟨w2.heap.size, 2, none⟩ = some (.func (.func f) #[] #[]) ∧ w'.cell? ⟨w2.heap.size + 1, 0, none⟩ = some (.int .i64 4) ∧ w'.cell? ⟨w2.heap.size + 1, 1, none⟩ = some (.int .u8 0) ∧ w'.cell? ⟨w2.heap.size + 1, 2, none⟩ = some (.func (.func 124) #[] #[])) (by kernel_rfl) hz (fun hS0 => ?_)
        clear hS0
        refine take_lit (i := 0) (v := ?_) rfl (by kernel_rfl) (by kernel_rfl) (by kernel_rfl) (fun _ _ _ h => h) (Or.inl ⟨by rfl, ?_⟩) hz ?_
        rotate_left 1
        · (intro w' hSw; obtain ⟨z0, z1, z2, z3, z4, z5⟩ := hSw; go_simp <;> with_reducible rfl)
        try simp only [Act.put, List.setIfInBounds_toArray, List.set_cons_zero, List.set_cons_succ]
        refine take_lit (i := 1) (v := ?_) rfl (by kernel_rfl) (by kernel_rfl) (by kernel_rfl) (fun _ _ _ h => h) (Or.inl ⟨by rfl, ?_⟩) hz ?_
        rotate_left 1
        · (intro w' hSw; obtain ⟨z0, z1, z2, z3, z4, z5⟩ := hSw; go_simp <;> with_reducible rfl)
        try simp only [Act.put, List.setIfInBounds_toArray, List.set_cons_zero, List.set_cons_succ]
        refine take_lit (i := 3) (v := ?_) rfl (by kernel_rfl) (by kernel_rfl) (by kernel_rfl) (fun _ _ _ h => h) (Or.inl ⟨by rfl, ?_⟩) hz ?_
        rotate_left 1
        · (intro w' hSw; obtain ⟨z0, z1, z2, z3, z4, z5⟩ := hSw; go_simp <;> with_reducible rfl)
        try simp only [Act.put, List.setIfInBounds_toArray, List.set_cons_zero, List.set_cons_succ]
        refine take_lit (i := 4) (v := ?_) rfl (by kernel_rfl) (by kernel_rfl) (by kernel_rfl) (fun _ _ _ h => h) (Or.inl ⟨by rfl, ?_⟩) hz ?_
        rotate_left 1
        · (intro w' hSw; obtain ⟨z0, z1, z2, z3, z4, z5⟩ := hSw; go_simp <;> with_reducible rfl)
        try simp only [Act.put, List.setIfInBounds_toArray, List.set_cons_zero, List.set_cons_succ]
        refine wpAnyH_ready (rs := [2, 7]) (by kernel_rfl) (by simp) ?_
        refine ready_lit2 rfl ?_ rfl ?_
        · intro K hK
          go_simp
          refine (C1.out _ (E0).own (E0).lies).mono ?_
          rintro en wA ⟨rfl, rA⟩
          have EA := Env.call (E0) HA.out hr6 hr7 rA
          go_wp2_with fail
          refine hK.out _ _ EA.cells (fun hHeld => ?_)
          clear hK K hHeld
          try simp only [Act.put, List.setIfInBounds_toArray, List.set_cons_zero, List.set_cons_succ]
          refine wpAnyH_ready (rs := [5, 7]) (by kernel_rfl) (by simp) ?_
          refine ready_lit2 rfl ?_ rfl ?_
          · intro K hK
            go_simp
            refine (C2.out _ (EA).own (EA).lies).mono ?_
            rintro en wB ⟨rfl, rB⟩
            have EB := Env.call (EA) HA.out hr6 hr7 rB
            go_wp2_with fail
            refine hK.out _ _ EB.cells (fun hHeld => ?_)
            clear hK K hHeld
            try simp only [Act.put, List.setIfInBounds_toArray, List.set_cons_zero, List.set_cons_succ]
            refine take_lit (i := 6) (v := ?_) rfl (by kernel_rfl) (by kernel_rfl) (by kernel_rfl) (fun _ _ _ h => h) (Or.inl ⟨by rfl, ?_⟩) EB.cells ?_
            rotate_left 1
            · (intro w' hSw; obtain ⟨z0, z1, z2, z3, z4, z5⟩ := hSw; go_simp <;> with_reducible rfl)
            try simp only [Act.put, List.setIfInBounds_toArray, List.set_cons_zero, List.set_cons_succ]
            refine wpAnyH_ready (rs := [7]) (by kernel_rfl) (by simp) ?_
            refine ready_lit rfl ?_
            intro K hK
            go_simp
            refine hK.out _ _ (EB.alloc _).cells (fun hHeld => ?_)
            clear hK K hHeld
            try simp only [Act.put, List.setIfInBounds_toArray, List.set_cons_zero, List.set_cons_succ]
            refine wpAnyH_ready (rs := [8]) (by kernel_rfl) (by simp) ?_
            refine ready_lit rfl ?_
            intro K hK
            go_simp
            refine hK.out _ _ (EB.alloc _).cells (fun hHeld => ?_)
            clear hK K hHeld
            try simp only [Act.put, List.setIfInBounds_toArray, List.set_cons_zero, List.set_cons_succ]
            refine wpAnyH_done (by kernel_rfl) ?_ _
            refine NoPanic.normal ?_
            go_wp2_with fail
            go_meet
            exact ⟨_, rfl, Own.new wB _ _, EB.alloc _, by have := EB.own.lt; omega⟩
          · intro K hK
            go_simp
            refine hK.out _ _ (EA.alloc _).cells (fun hHeld => ?_)
            clear hK K hHeld
            try simp only [Act.put, List.setIfInBounds_toArray, List.set_cons_zero, List.set_cons_succ]
            refine wpAnyH_ready (rs := [5]) (by kernel_rfl) (by simp) ?_
            refine ready_lit rfl ?_
            intro K hK
            go_simp
            refine (C2.out _ (EA.alloc _).own (EA.alloc _).lies).mono ?_
            rintro en wB ⟨rfl, rB⟩
            have EB := Env.call (EA.alloc _) HA.out hr6 hr7 rB
            go_wp2_with fail
            refine hK.out _ _ EB.cells (fun hHeld => ?_)
            clear hK K hHeld
            try simp only [Act.put, List.setIfInBounds_toArray, List.set_cons_zero, List.set_cons_succ]
            have nB := (Own.new wA #[.int .i64 0, .int .i64 0] 51).fr rB.2 (show ¬ wA.heap.size = r by have := rA.1.lt; omega)
            obtain ⟨m0, m1, mf⟩ := own2 nB
            refine take_lit (i := 6) (v := ?_) rfl (by kernel_rfl) (by kernel_rfl) (by kernel_rfl) (fun _ _ _ h => h) (Or.inl ⟨by rfl, ?_⟩) EB.cells ?_
            rotate_left 1
            · (intro w' hSw; obtain ⟨z0, z1, z2, z3, z4, z5⟩ := hSw; go_simp <;> with_reducible rfl)
            try simp only [Act.put, List.setIfInBounds_toArray, List.set_cons_zero, List.set_cons_succ]
            refine wpAnyH_ready (rs := [8]) (by kernel_rfl) (by simp) ?_
            refine ready_lit rfl ?_
            have ES := EB.new2 nB V1 V2 (Nat.le_trans E0.fr.size rA.2.size) HAB.out (fun b q => by have := E0.row.lt q; have := rA.2.size; simp at *; omega)
            intro K hK
            go_simp
            refine hK.out _ _ ES.cells (fun hHeld => ?_)
            clear hK K hHeld
            try simp only [Act.put, List.setIfInBounds_toArray, List.set_cons_zero, List.set_cons_succ]
            refine wpAnyH_done (by kernel_rfl) ?_ _
            refine NoPanic.normal ?_
            go_wp2_with fail
            go_meet
            exact ⟨_, rfl, (nB.set2 V1 V2), ES, by have := EA.own.lt; omega⟩
        · intro K hK
          go_simp
          refine hK.out _ _ (E0.alloc _).cells (fun hHeld => ?_)
          clear hK K hHeld
          try simp only [Act.put, List.setIfInBounds_toArray, List.set_cons_zero, List.set_cons_succ]
          refine wpAnyH_ready (rs := [2]) (by kernel_rfl) (by simp) ?_
          refine ready_lit rfl ?_
          intro K hK
          go_simp
          refine (C1.out _ (E0.alloc _).own (E0.alloc _).lies).mono ?_
          rintro en wA ⟨rfl, rA⟩
          have EA := Env.call (E0.alloc _) HA.out hr6 hr7 rA
          go_wp2_with fail
          refine hK.out _ _ EA.cells (fun hHeld => ?_)
          clear hK K hHeld
          try simp only [Act.put, List.setIfInBounds_toArray, List.set_cons_zero, List.set_cons_succ]
          have nA : Own wA wr.heap.size #[.int .i64 0, .int .i64 0] 51 := (Own.new wr.drew #[.int .i64 0, .int .i64 0] 51).fr rA.2 hwn
          refine wpAnyH_ready (rs := [5]) (by kernel_rfl) (by simp) ?_
          refine ready_lit rfl ?_
          intro K hK
          go_simp
          refine (C2.out _ (EA).own (EA).lies).mono ?_
          rintro en wB ⟨rfl, rB⟩
          have EB := Env.call (EA) HA.out hr6 hr7 rB
          go_wp2_with fail
          refine hK.out _ _ EB.cells (fun hHeld => ?_)
          clear hK K hHeld
          try simp only [Act.put, List.setIfInBounds_toArray, List.set_cons_zero, List.set_cons_succ]
          have nB : Own wB wr.heap.size #[.int .i64 0, .int .i64 0] 51 := nA.fr rB.2 hwn
          obtain ⟨m0, m1, mf⟩ := own2 nB
          refine take_lit (i := 6) (v := ?_) rfl (by kernel_rfl) (by kernel_rfl) (by kernel_rfl) (fun _ _ _ h => h) (Or.inl ⟨by rfl, ?_⟩) EB.cells ?_
          rotate_left 1
          · (intro w' hSw; obtain ⟨z0, z1, z2, z3, z4, z5⟩ := hSw; go_simp <;> with_reducible rfl)
          try simp only [Act.put, List.setIfInBounds_toArray, List.set_cons_zero, List.set_cons_succ]
          refine wpAnyH_ready (rs := [8]) (by kernel_rfl) (by simp) ?_
          refine ready_lit rfl ?_
          have ES := EB.new2 nB V1 V2 E0.fr.size HAB.out (fun b q => by have := E0.row.lt q; simp at *; omega)
          intro K hK
          go_simp
          refine hK.out _ _ ES.cells (fun hHeld => ?_)
          clear hK K hHeld
          try simp only [Act.put, List.setIfInBounds_toArray, List.set_cons_zero, List.set_cons_succ]
          refine wpAnyH_done (by kernel_rfl) ?_ _
          refine NoPanic.normal ?_
          go_wp2_with fail
          go_meet
          exact ⟨_, rfl, (nB.set2 V1 V2), ES, hwn⟩
      case rest =>
        obtain ⟨g, rfl, hg, EC, hgr⟩ := hcut
        clear E0 hz
        obtain ⟨c0, c1, c2, cf⟩ := own3 EC.own
        obtain ⟨t0, t1, tf⟩ := own2 hg
        by_cases hs3z : s3.2 = 0
        · have hq : (s3.2 : Int) = 0 := by omega
          rw [hq] at c2
          have oB := Own.new wc #[.int .i64 V1, .int .i64 V2] 51
          have rB := EC.row.alloc (.cells #[.int .i64 V1, .int .i64 V2] 51)
          have EB := EC.alloc (.cells #[.int .i64 V1, .int .i64 V2] 51)
          have hRne : ∀ b, (Value.slice ao acc.length cp).ownBlock = some b → ¬ b = r := fun b q e => EC.row.ne EC.own (by decide) (by rw [q, e])
          have HN2 : Hid (∀ wz ao2 cp2, (wc.alloc (.cells #[.int .i64 V1, .int .i64 V2] 51)).grownBy wz (Value.slice ao acc.length cp).ownBlock → Rw wz 51 2 (.slice ao2 (acc.length + 1) cp2) (acc.length + 1) (armC acc ++ [.int .i64 V1, .int .i64 V2]) → ((Value.slice ao2 (acc.length + 1) cp2).ownBlock = (Value.slice ao acc.length cp).ownBlock ∨ (Value.slice ao2 (acc.length + 1) cp2).ownBlock = some (wc.heap.size + 1)) →
              ArRel w5 r a L cap (nVal x) f xs w2.heap.size (w2.heap.size + 1) n R gk (.slice ao2 (acc.length + 1) cp2) (.int .i64 ((acc.length : Int) + 1)) wz) := by
            intro wz ao2 cp2 q1 q2 q3
            have hF : ∀ b, b < w5.heap.size → (Value.slice ao acc.length cp).ownBlock = some b → b = r := by
              intro b hb e
              have := HNEW.out b e; omega
            have e6 : ∀ {g : Nat} {cs : Array Value} {t : TypeId}, Own (wc.alloc (.cells #[.int .i64 V1, .int .i64 V2] 51)) g cs t → 51 ≠ t → Own wz g cs t := fun {g cs t} h ht => h.grown q1 (fun e => rB.ne h ht e.symm)
            refine ⟨⟨acc ++ [(V1, V2)], s3, by have := HLEN.out; simp; omega, by simp, ?_, ?_, hs3, fun q => absurd hs3z q, e6 EB.own (by decide), HG.out hs3z⟩, e6 EB.o6 (by decide), e6 EB.o7 (by decide), EB.fr.grown q1 hF⟩
            · rw [armC_append, List.length_append]; exact q2
            · intro b q
              rcases q3 with q3 | q3
              · exact HNEW.out b (by rw [← q3]; exact q)
              · have hs5 := EC.fr.size
                rw [q3] at q; cases q; omega
          clear EC
          go_wp2_with (refine wpList_app1 okA (by rfl) (.tmp 29) (.tmp 31) (by rfl) _ acc.length (armC acc) (by rfl) rB wc.heap.size [.int .i64 V1, .int .i64 V2] (by rfl) oB rfl (by simp [Value.oneCell']) (by omega) ?_; intro ao2 cp2 wz q1 q2 q3; have HO : Hid _ := HN2.out wz ao2 cp2 q2 q1 (by simpa using q3); clear q1 q2 q3)
          go_roundg gk
          case measure => omega
          case rel => exact HO.out
        · have hq : (((s3.2 : Nat) : Int) == 0) = false := by simp; omega
          have HZ : Hid (ArRet w r a L cap R (.returned (.slice none 0 0)) wc) := by
            unfold Hid
            rw [HB.out hs3z]
            exact ⟨_, rfl, World.ownsRow_nil _ _ _ _, by simp [Value.ownBlock], EC.own, HFW.out.trans EC.fr⟩
          generalize (s3.2 : Int) = Z at *
          clear EC
          go_wp2
          go_ret
          exact HZ.out
end Go.Proofs.YtkmmnocooibljaaGreatDoor
