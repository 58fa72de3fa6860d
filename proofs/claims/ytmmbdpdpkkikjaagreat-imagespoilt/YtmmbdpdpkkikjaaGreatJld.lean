/-
  THE DEFERRED CLOSURE OF Load.
  WHAT IS READ FITS.
  A MODULE THAT WAS READ, AS A MODULE IN MEMORY.
  CODES THAT WERE READ ARE BYTES.
  Load ITSELF: what is needed for it.
  Load ITSELF, walked: K is what Check tells.
-/
import Derived.Test.YtmmbdpdpkkikjaaGreatJle
import Derived.Defers
import Derived.Recover
import Derived.Laws.Pointers
namespace Go.Proofs.YtmmbdpdpkkikjaaGreat
open Go.RowKit
set_option linter.unusedVariables false

/-- What the closure leaves: the named results. -/
structure CaughtAt (gm ga ge : Nat) (at_ er : Int) (w w' : World) : Prop where
  m : Own w' gm zMd 26
  a : Own w' ga #[.int .i64 at_] 3
  e : Own w' ge #[.int .i64 er] 30
  fr : Fr (fun b => b = gm ∨ b = ga ∨ b = ge) w w'
theorem act_lit (a b c v : Value) : #[a, b, c] ++ ((Array.replicate 19 undef).setIfInBounds 3 v).setIfInBounds 0 v = #[a, b, c, v, undef, undef, v, undef, undef, undef, undef, undef, undef, undef, undef, undef, undef, undef, undef, undef, undef, undef] := by
  simp [← List.toArray_replicate, List.replicate]
set_option maxHeartbeats 2000000 in
set_option maxRecDepth 100000 in
theorem catch_idle (gm ga ge : Nat) (w : World) : CallsD Tryz.prog 32 #[ptr gm, ptr ga, ptr ge] .returning w fun e u' w' => e = .returned (.tuple #[]) ∧ u' = .returning ∧ w' = w := by
  refine callsD_of_wpS Tryz.func32 rfl fun c₀ cs hu => ?_
  apply wpS_seq
  apply wpS_region
  simp [wpOpsS, go_sem, recoverD, hu, Tryz.ntmps32, Exit.thenS]
  refine wpS_of_wp ?_
  rw [act_lit]
  obtain ⟨Q, hQ⟩ : ∃ Q : Exit → Act → World → Prop, Hid ((fun (e : Exit) (a' : Act) (w' : World) => bodyPostS Tryz.prog Tryz.f32 c₀ cs (fun e u' w' => e = .returned (.tuple #[]) ∧ u' = .returning ∧ w' = w) e a' (c₀ :: cs) w') = Q) := ⟨_, rfl⟩
  rw [hQ.out]
  go_wp2_with fail
  rw [← hQ.out]
  refine ⟨rfl, .returning, ?_, _, results_none rfl _ _ _, rfl, rfl, rfl⟩
  cases c₀
  simp_all
abbrev faultE (at_ er : Int) (b : Bool) : PanicEntry := { v := .iface 66 (.agg #[.int .i64 at_, .int .i64 er]), recovered := b }
set_option maxHeartbeats 2000000 in
set_option maxRecDepth 100000 in
theorem catch_fault (gm ga ge : Nat) (at_ er : Int) (w : World) (hm : Own w gm zMd 26) (ha : Own w ga #[.int .i64 0] 3) (he : Own w ge #[.int .i64 0] 30)   : CallsD Tryz.prog 32 #[ptr gm, ptr ga, ptr ge] (.panicking [faultE at_ er false]) w fun e u' w' => e = .returned (.tuple #[]) ∧ u' = .panicking [faultE at_ er true] ∧ CaughtAt gm ga ge at_ er w w' := by
  refine callsD_of_wpS Tryz.func32 rfl fun c₀ cs hu => ?_
  apply wpS_seq
  apply wpS_region
  simp [wpOpsS, go_sem, recoverD, hu, Tryz.ntmps32, Exit.thenS]
  refine wpS_of_wp ?_
  rw [act_lit]
  obtain ⟨m0, m1, m2, mf⟩ := hm.c3z
  have a0 : w.cell? ⟨ga, 0, none⟩ = some (.int .i64 0) := by simpa using ha.cell 0
  have e0 : w.cell? ⟨ge, 0, none⟩ = some (.int .i64 0) := by simpa using he.cell 0
  have af := ha.froz
  have ef := he.froz
  generalize hQ : (fun (e : Exit) (a' : Act) (w' : World) => bodyPostS Tryz.prog Tryz.f32 c₀ cs _ e a' _ w') = Q
  have HQ : Hid _ := hQ
  clear hQ
  have hta : ∀ W : World, (Instr.typeAssert (.iface 66 (.agg #[.int .i64 at_, .int .i64 er])) 20 66 true).run Tryz.prog W = .ok (.tuple #[.agg #[.int .i64 at_, .int .i64 er], .bool true]) W := fun W => by
    simp [Instr.typeAssert, run_underlying Tryz.underlying66, go_sem, Result.andThen]
  have n1 : ¬ gm = ga := hm.ne ha (by decide)
  have n2 : ¬ gm = ge := hm.ne he (by decide)
  have n3 : ¬ ga = ge := ha.ne he (by decide)
  have n1' : ¬ ga = gm := fun e => n1 e.symm
  have n2' : ¬ ge = gm := fun e => n2 e.symm
  have n3' : ¬ ge = ga := fun e => n3 e.symm
  have l1 := hm.lt
  have l2 := ha.lt
  have l3 := he.lt
  have k1 : ¬ w.heap.size = gm := by omega
  have k2 : ¬ w.heap.size = ga := by omega
  have k3 : ¬ w.heap.size = ge := by omega
  have k1' : ¬ gm = w.heap.size := by omega
  have k2' : ¬ ga = w.heap.size := by omega
  have k3' : ¬ ge = w.heap.size := by omega
  have oN := Own.new w #[.int .i64 at_, .int .i64 er] 66
  have hZ : CaughtAt gm ga ge at_ er w (((((((w.alloc (.cells #[.int .i64 at_, .int .i64 er] 66)).setCell ⟨gm, 0, none⟩ (.slice none 0 0)).setCell ⟨gm, 1, none⟩ (.slice none 0 0)).setCell ⟨gm, 2, none⟩ (.slice none 0 0)).setCell ⟨ga, 0, none⟩ (.int .i64 at_)).setCell ⟨ge, 0, none⟩ (.int .i64 er)).drew) := by
    have hm2 := hm.alloc (.cells #[.int .i64 at_, .int .i64 er] 66)
    have ha2 := ha.alloc (.cells #[.int .i64 at_, .int .i64 er] 66)
    have he2 := he.alloc (.cells #[.int .i64 at_, .int .i64 er] 66)
    have m3 := ((hm2.set 0 (.slice none 0 0)).set 1 (.slice none 0 0)).set 2 (.slice none 0 0)
    have a3 := ((ha2.other n1' (i := 0) (.slice none 0 0)).other n1' (i := 1) (.slice none 0 0)).other n1' (i := 2) (.slice none 0 0)
    have e3 := ((he2.other n2' (i := 0) (.slice none 0 0)).other n2' (i := 1) (.slice none 0 0)).other n2' (i := 2) (.slice none 0 0)
    refine ⟨?_, ?_, ?_, ?_⟩
    · have := ((m3.other n1 (i := 0) (.int .i64 at_)).other n2 (i := 0) (.int .i64 er)).drew
      simpa using this
    · have := ((a3.set 0 (.int .i64 at_)).other n3 (i := 0) (.int .i64 er)).drew
      simpa using this
    · have := ((e3.other n3' (i := 0) (.int .i64 at_)).set 0 (.int .i64 er)).drew
      simpa using this
    · exact ((((((Fr.refl (fun b => b = gm ∨ b = ga ∨ b = ge) w).alloc _).set (g := gm) (.inr (.inl rfl)) 0 _).set (g := gm) (.inr (.inl rfl)) 1 _).set (g := gm) (.inr (.inl rfl)) 2 _).set (g := ga) (.inr (.inr (.inl rfl))) 0 _ |>.set (g := ge) (.inr (.inr (.inr rfl))) 0 _).drew
  have HZ : Hid (CaughtAt gm ga ge at_ er w _) := hZ
  clear hZ
  go_upto_region 5 with fail
  have hm2 := hm.alloc (.cells #[.int .i64 at_, .int .i64 er] 66)
  have ha2 := ha.alloc (.cells #[.int .i64 at_, .int .i64 er] 66)
  have he2 := he.alloc (.cells #[.int .i64 at_, .int .i64 er] 66)
  generalize w.alloc (.cells #[.int .i64 at_, .int .i64 er] 66) = W at *
  generalize w.heap.size = G at *
  obtain ⟨f0, f1, ff⟩ := own2 oN
  obtain ⟨m0, m1, m2, mf⟩ := hm2.c3z
  have a0 : W.cell? ⟨ga, 0, none⟩ = some (.int .i64 0) := by simpa using ha2.cell 0
  have e0 : W.cell? ⟨ge, 0, none⟩ = some (.int .i64 0) := by simpa using he2.cell 0
  have af := ha2.froz
  have ef := he2.froz
  clear hm2 ha2 he2 hm ha he oN hta
  go_region
  rw [← HQ.out]
  refine ⟨rfl, .panicking [faultE at_ er true], ?_, _, results_none rfl _ _ _, rfl, rfl, HZ.out⟩
  cases c₀
  simp_all
end Go.Proofs.YtmmbdpdpkkikjaaGreat
namespace Go.Proofs.YtmmbdpdpkkikjaaGreat
open Go.RowKit
set_option linter.unusedVariables false

/-- What a reader of one thing gives has a property. -/
def Gives {α : Type} (f : List Nat → Nat → Rs α) (Q : α → Prop) : Prop := ∀ xs p a q, f xs p = .inr (a, q) → Q a
theorem bind_inr_of {α β : Type} {r : Rs α} {f : α → Nat → Rs β} {b : β} {q : Nat} (h : r.bind f = .inr (b, q)) : ∃ a p, r = .inr (a, p) ∧ f a p = .inr (b, q) := by
  cases r with
  | inl x => cases h
  | inr y => exact ⟨y.1, y.2, rfl, h⟩
theorem gives_num : Gives rNum NumOk := fun xs p a q h => rNum_in h
theorem strN_len (l : List Nat) : (strN l).size = l.length := by simp [strN, strOfNums, ByteArray.size]
theorem gives_text : Gives rText (fun s => s.size ≤ 65536) := fun xs p a q h => by
  obtain ⟨n, p1, h1, h⟩ := bind_inr_of h
  obtain ⟨b, p2, h2, h⟩ := bind_inr_of h
  cases h
  show (strN b).size ≤ 65536
  rw [strN_len, rBytes_len h2]
  exact rCount_in h1
theorem gives_code : Gives rCode (fun s => s.length ≤ 65536) := fun xs p a q h => by
  obtain ⟨n, p1, h1, h⟩ := bind_inr_of h
  show a.length ≤ 65536
  rw [rBytes_len h]
  exact rCount_in h1
theorem sev_gives {α : Type} {f : List Nat → Nat → Rs α} {Q : α → Prop} (hf : Gives f Q) (xs : List Nat) : ∀ n p l q, rSev (f xs) n p = .inr (l, q) → l.length = n ∧ ∀ a ∈ l, Q a := by
  intro n
  induction n with
  | zero => intro p l q h; cases h; exact ⟨rfl, fun a h => by cases h⟩
  | succ n ih =>
    intro p l q h
    obtain ⟨a, p1, h1, h⟩ := bind_inr_of h
    obtain ⟨l1, p2, h2, h⟩ := bind_inr_of h
    cases h
    obtain ⟨e, he⟩ := ih p1 l1 _ h2
    refine ⟨by simp [e], fun x hx => ?_⟩
    rcases List.mem_cons.1 hx with rfl | hx
    · exact hf xs p _ p1 h1
    · exact he x hx
theorem gives_list {α : Type} {f : List Nat → Nat → Rs α} {Q : α → Prop} (lim : Nat) (hf : Gives f Q) : Gives (rList lim f) (fun l => l.length ≤ lim ∧ ∀ a ∈ l, Q a) := fun xs p a q h => by
  obtain ⟨n, p1, h1, h⟩ := bind_inr_of h
  obtain ⟨e, he⟩ := sev_gives hf xs n p1 a q h
  exact ⟨by rw [e]; exact rCount_in h1, he⟩
theorem gives_fl : Gives rFl FlOk := fun xs p a q h => by
  obtain ⟨nm, p1, h1, h⟩ := bind_inr_of h
  obtain ⟨t, p2, h2, h⟩ := bind_inr_of h
  cases h
  exact ⟨gives_text _ _ _ _ h1, gives_num _ _ _ _ h2⟩
theorem gives_ro : Gives rRo RoOk := fun xs p a q h => by
  obtain ⟨nm, p1, h1, h⟩ := bind_inr_of h
  obtain ⟨ps, p2, h2, h⟩ := bind_inr_of h
  obtain ⟨rs, p3, h3, h⟩ := bind_inr_of h
  obtain ⟨lo, p4, h4, h⟩ := bind_inr_of h
  obtain ⟨st, p5, h5, h⟩ := bind_inr_of h
  obtain ⟨co, p6, h6, h⟩ := bind_inr_of h
  cases h
  have g2 := gives_list 32 gives_num _ _ _ _ h2
  have g3 := gives_list 8 gives_num _ _ _ _ h3
  exact ⟨gives_text _ _ _ _ h1, g2.1, g2.2, g3.1, g3.2, gives_num _ _ _ _ h4, gives_num _ _ _ _ h5, gives_code _ _ _ _ h6⟩
theorem gives_ty : Gives rTy TyOk := fun xs p a q h => by
  unfold rTy at h
  obtain ⟨k, p1, h1, h⟩ := bind_inr_of h
  have hk := rKind_in h1
  rcases hk with rfl | rfl | rfl
  · rw [if_pos rfl] at h
    obtain ⟨nm, p2, h2, h⟩ := bind_inr_of h
    obtain ⟨l, p3, h3, h⟩ := bind_inr_of h
    cases h
    have g := gives_list 32 gives_fl _ _ _ _ h3
    exact .inl ⟨rfl, gives_text _ _ _ _ h2, g.1, g.2, rfl, rfl⟩
  · rw [if_neg (by omega), if_pos rfl] at h
    obtain ⟨e, p2, h2, h⟩ := bind_inr_of h
    obtain ⟨n, p3, h3, h⟩ := bind_inr_of h
    cases h
    exact .inr (.inl ⟨rfl, rfl, rfl, gives_num _ _ _ _ h2, gives_num _ _ _ _ h3⟩)
  · rw [if_neg (by omega), if_neg (by omega)] at h
    obtain ⟨e, p2, h2, h⟩ := bind_inr_of h
    cases h
    exact .inr (.inr ⟨rfl, rfl, rfl, gives_num _ _ _ _ h2, rfl⟩)
theorem gives_mo : Gives rMo MoFit := fun xs p a q h => by
  obtain ⟨ts, p1, h1, h⟩ := bind_inr_of h
  obtain ⟨ss, p2, h2, h⟩ := bind_inr_of h
  obtain ⟨fs, p3, h3, h⟩ := bind_inr_of h
  split at h
  · cases h
  · cases h
    have g1 := gives_list 256 gives_ty _ _ _ _ h1
    have g2 := gives_list 32768 gives_text _ _ _ _ h2
    have g3 := gives_list 256 gives_ro _ _ _ _ h3
    exact ⟨g1.1, g2.1, g3.1, g1.2, g2.2, g3.2⟩
end Go.Proofs.YtmmbdpdpkkikjaaGreat
namespace Go.Proofs.YtmmbdpdpkkikjaaGreat
open Go.RowKit
set_option linter.unusedVariables false

theorem Rw.no {w : World} {e : TypeId} {sz n c : Nat} {a : Option Addr} {xs : List Value} (h : Rw w e sz (.slice a n c) n xs) : a = none → c = 0 := by
  rintro rfl
  rcases h.2 with ⟨e, h0⟩ | ⟨g, cap, cur, e, _⟩
  · cases e; rfl
  · cases e
theorem Rw.caps {w : World} {e : TypeId} {sz n c : Nat} {a : Option Addr} {xs : List Value} (h : Rw w e sz (.slice a n c) n xs) : n ≤ c ∧ c ≤ maxLen := by
  obtain ⟨ao, cap, e, h1, h2⟩ := h.shape
  cases e
  exact ⟨h1, h2⟩
theorem kTxt_rows (ms : List ByteArray) : kTxt.rows ms = txC ms := by
  induction ms with
  | nil => rfl
  | cons x r ih => exact congrArg (fun z => Value.string x :: z) ih
theorem n64_of {x : Int} (h : NumOk x) : N64 x := by unfold NumOk at h; unfold N64; omega
theorem ty_in {w : World} {B : Nat} {x : TyP} (h : tyN w B x) (hk : TyOk x.t) : TyIn w x := by
  have hx : x.t.kind < 256 ∧ x.t.name.size ≤ 65536 ∧ N64 x.t.elem ∧ N64 x.t.len ∧ (∀ y ∈ x.t.fields, FlOk y) ∧ x.t.fields.length ≤ 32 := by
    rcases hk with ⟨h1, h2, h3, h4, h5, h6⟩ | ⟨h1, h2, h3, h4, h5⟩ | ⟨h1, h2, h3, h4, h5⟩
    · exact ⟨by omega, h2, by rw [h5]; unfold N64; omega, by rw [h6]; unfold N64; omega, h4, h3⟩
    · exact ⟨by omega, by rw [h2]; decide, n64_of h4, n64_of h5, (by rw [h3]; intro y hy; cases hy), (by rw [h3]; decide)⟩
    · exact ⟨by omega, by rw [h2]; decide, n64_of h4, by rw [h5]; unfold N64; omega, (by rw [h3]; intro y hy; cases hy), (by rw [h3]; decide)⟩
  obtain ⟨h1, h2, h3, h4, h5, h6⟩ := hx
  have hc := h.1.caps
  exact ⟨rw_rowAt h.1 (Nat.le_refl _) (fun i hi d hd => flC_get _ i hi d hd), h1, by unfold big; omega, h3, h4, fun y hy => ⟨by have := (h5 y hy).1; unfold big; omega, n64_of (h5 y hy).2⟩, h.1.no, hc.1, by unfold big; omega, hc.2⟩
theorem ro_in {w : World} {B : Nat} {x : RoP} (h : roN w B x) (hk : RoOk x.r) (hb : ∀ c ∈ x.r.code, c < 256) : RoIn w x := by
  obtain ⟨k1, k2, k3, k4, k5, k6, k7, k8⟩ := hk
  obtain ⟨⟨p, _⟩, ⟨r, _⟩, ⟨c, _⟩⟩ := h
  have hp := p.caps
  have hr := r.caps
  have hc := c.caps
  obtain ⟨ao, cp, e, hl⟩ := row_lies c hb (by omega)
  have e1 : ao = x.ca := by injection e with e1 e2 e3; exact e1.symm
  rw [e1] at hl
  exact ⟨rw_rowAt p (Nat.le_refl _) (fun i hi d hd => intV_get _ i hi d hd), rw_rowAt r (Nat.le_refl _) (fun i hi d hd => intV_get _ i hi d hd), hl, by unfold big; omega, n64_of k6, n64_of k7, fun y hy => n64_of (k3 y hy), fun y hy => n64_of (k5 y hy), p.no, hp.1, by unfold big; omega, hp.2, r.no, hr.1, by unfold big; omega, hr.2, c.no, hc.1, by unfold big; omega, hc.2⟩
theorem vMod_in {w : World} {B : Nat} {v : Value} {m : Mo} (h : vMod w B v m) (hf : MoFit m) (hb : ∀ r ∈ m.funcs, ∀ c ∈ r.code, c < 256) : ∃ A : MoP, A.mo = m ∧ v = .agg A.cs ∧ MoIn w A := by
  obtain ⟨v1, v2, v3, rfl, ⟨ts, e1, t1, t2, t3⟩, ⟨ss, e2, s1, s2, s3⟩, ⟨fs, e3, f1, f2, f3⟩⟩ := h
  obtain ⟨ta, tc, rfl, -⟩ := t1.shape
  obtain ⟨sa, sc, rfl, -⟩ := s1.shape
  obtain ⟨fa, fc, rfl, -⟩ := f1.shape
  have ess : ss = m.texts := by rw [← e2]; exact (List.map_id ss).symm
  have s1' : Rw w 9 1 (.slice sa ss.length sc) ss.length (txC ss) := by rw [← kTxt_rows]; exact s1
  have ht := t1.caps
  have hs := s1.caps
  have hfc := f1.caps
  have n1 : ts.length = m.types.length := by rw [← e1, List.length_map]
  have n3 : fs.length = m.funcs.length := by rw [← e3, List.length_map]
  have := hf.tl
  have := hf.xl
  have := hf.fl
  refine ⟨⟨ts, ta, tc, ss, sa, sc, fs, fa, fc⟩, ?_, rfl, ?_⟩
  · show (⟨ts.map TyP.t, ss, fs.map RoP.r⟩ : Mo) = m
    rw [show ts.map TyP.t = m.types from e1, show fs.map RoP.r = m.funcs from e3, ess]
  · exact ⟨rw_rowAt t1 (Nat.le_refl _) (fun i hi d hd => tyC_get _ i hi d hd), rw_rowAt s1' (Nat.le_refl _) (fun i hi d hd => txC_get _ i hi d hd), rw_rowAt f1 (Nat.le_refl _) (fun i hi d hd => roC_get _ i hi d hd),
      fun x hx => ty_in (t3 x hx) (hf.ty _ (by rw [← e1]; exact List.mem_map_of_mem hx)), fun s hs => by have := hf.tx s (by rw [← ess]; exact hs); unfold big; omega,
      fun x hx => ro_in (f3 x hx) (hf.ro _ (by rw [← e3]; exact List.mem_map_of_mem hx)) (hb _ (by rw [← e3]; exact List.mem_map_of_mem hx)),
      t1.no, ht.1, by show ts.length ≤ big; unfold big; omega, ht.2, s1.no, hs.1, by show ss.length ≤ big; rw [ess]; unfold big; omega, hs.2, f1.no, hfc.1, by show fs.length ≤ big; unfold big; omega, hfc.2⟩
end Go.Proofs.YtmmbdpdpkkikjaaGreat
namespace Go.Proofs.YtmmbdpdpkkikjaaGreat
open Go.RowKit
set_option linter.unusedVariables false

theorem rBytes_mem {n : Nat} {xs : List Nat} {p : Nat} {l : List Nat} {q : Nat} (h : rBytes n xs p = .inr (l, q)) : ∀ c ∈ l, c ∈ xs := by
  unfold rBytes at h
  split at h
  · cases h
  · cases h
    intro c hc
    exact List.mem_of_mem_drop (List.mem_of_mem_take hc)
theorem rRo_code {xs : List Nat} (hb : ∀ c ∈ xs, c < 256) {p : Nat} {a : Ro} {q : Nat} (h : rRo xs p = .inr (a, q)) : ∀ c ∈ a.code, c < 256 := by
  obtain ⟨nm, p1, h1, h⟩ := bind_inr_of h
  obtain ⟨ps, p2, h2, h⟩ := bind_inr_of h
  obtain ⟨rs, p3, h3, h⟩ := bind_inr_of h
  obtain ⟨lo, p4, h4, h⟩ := bind_inr_of h
  obtain ⟨st, p5, h5, h⟩ := bind_inr_of h
  obtain ⟨co, p6, h6, h⟩ := bind_inr_of h
  cases h
  obtain ⟨n, p7, h7, h8⟩ := bind_inr_of h6
  exact fun c hc => hb c (rBytes_mem h8 c hc)
theorem sev_each {α : Type} {f : Nat → Rs α} {Q : α → Prop} (hf : ∀ p a q, f p = .inr (a, q) → Q a) : ∀ n p l q, rSev f n p = .inr (l, q) → ∀ a ∈ l, Q a := by
  intro n
  induction n with
  | zero => intro p l q h; cases h; exact fun a h => by cases h
  | succ n ih =>
    intro p l q h
    obtain ⟨a, p1, h1, h⟩ := bind_inr_of h
    obtain ⟨l1, p2, h2, h⟩ := bind_inr_of h
    cases h
    intro x hx
    rcases List.mem_cons.1 hx with rfl | hx
    · exact hf p _ p1 h1
    · exact ih p1 l1 _ h2 x hx
theorem rMo_code {xs : List Nat} (hb : ∀ c ∈ xs, c < 256) {p : Nat} {m : Mo} {q : Nat} (h : rMo xs p = .inr (m, q)) : ∀ r ∈ m.funcs, ∀ c ∈ r.code, c < 256 := by
  obtain ⟨ts, p1, h1, h⟩ := bind_inr_of h
  obtain ⟨ss, p2, h2, h⟩ := bind_inr_of h
  obtain ⟨fs, p3, h3, h⟩ := bind_inr_of h
  split at h
  · cases h
  · cases h
    obtain ⟨n, p4, h4, h5⟩ := bind_inr_of h3
    exact sev_each (Q := fun r => ∀ c ∈ r.code, c < 256) (fun p a q e => rRo_code hb e) n p4 fs _ h5
end Go.Proofs.YtmmbdpdpkkikjaaGreat
namespace Go.Proofs.YtmmbdpdpkkikjaaGreat
open Go.RowKit
set_option linter.unusedVariables false

/-! ### Nothing at all -/
set_option maxHeartbeats 2000000 in
set_option maxRecDepth 100000 in
theorem rmark_none {w : World} {r : Nat} {a : Option Addr} {c : Nat} (h : Own w r #[.slice a 0 c, .int .i64 0] 69) : Calls Tryz.prog 54 #[ptr r] w fun e w' => e = .returned (.tuple #[]) ∧ RFr r w w' ∧ Own w' r #[.slice a 0 c, .int .i64 0] 69 := by
  obtain ⟨x0, x1, xf⟩ := own2 h
  have HO : Hid (Own w r #[.slice a 0 c, .int .i64 0] 69) := h
  clear h
  go_enter Tryz.func54, Tryz.ntmps54
  go_wp2_with fail
  go_loopg [9] 0 (fun g i wr => g = 0 ∧ i = .int .i64 0 ∧ ∃ j, wr = w.drewN j)
  case atStart => exact ⟨rfl, rfl, 0, rfl⟩
  case round =>
    obtain ⟨rfl, rfl, jd, rfl⟩ := hrel
    go_wp2_with fail
    exact bodyPost_end (results_none rfl _ _ _) rfl ⟨rfl, (Fr.refl _ w).drewN jd, HO.out.drewN jd⟩
set_option maxHeartbeats 2000000 in
set_option maxRecDepth 100000 in
theorem rhead_none {w : World} {r : Nat} {a : Option Addr} {c : Nat} (h : Own w r #[.slice a 0 c, .int .i64 0] 69) : Calls Tryz.prog 33 #[ptr r] w fun e w' => e = .panicked (fltV 0 10) ∧ RFr r w w' := by
  have hM := rmark_none h
  clear h
  go_enter Tryz.func33, Tryz.ntmps33
  go_wp2_with fail
  refine hM.mono ?_
  rintro e w1 ⟨rfl, hf, ho⟩
  clear hM
  have hC := giveUpShort_of ho
  obtain ⟨x0, x1, xf⟩ := own2 ho
  clear ho
  go_wp2_with fail
  refine hC.mono ?_
  rintro e w2 ⟨rfl, rfl⟩
  go_wp2
  exact ⟨rfl, rfl, hf⟩
/-! ### What was read, carried over -/
theorem vMod.fr {w w' : World} {B g : Nat} {v : Value} {m : Mo} (h : vMod w B v m) (hg : g < B) (hf : Fr (fun b => b = g) w w') : vMod w' B v m := by
  obtain ⟨v1, v2, v3, e, t1, t2, t3⟩ := h
  exact ⟨v1, v2, v3, e, t1.fr kTy_good hg hf, t2.fr kTxt_good hg hf, t3.fr kRo_good hg hf⟩
theorem vMod.below {w w' : World} {B : Nat} {v : Value} {m : Mo} (h : vMod w B v m) (hg : 0 < B) (hf : Below w.heap.size w w') : vMod w' B v m := h.fr hg (Fr.of hf)
theorem vMod.mono {w : World} {B B' : Nat} {v : Value} {m : Mo} (h : vMod w B' v m) (hg : B ≤ B') : vMod w B v m := by
  obtain ⟨v1, v2, v3, e, t1, t2, t3⟩ := h
  exact ⟨v1, v2, v3, e, t1.mono kTy_good hg, t2.mono kTxt_good hg, t3.mono kRo_good hg⟩
theorem results_load {tmps : Array Value} {w : World} {gm ga ge : Nat} {v1 v2 v3 : Value} {x y : Int} (h2 : tmps.getD 2 undef = ptr gm) (h3 : tmps.getD 3 undef = ptr ga) (h4 : tmps.getD 4 undef = ptr ge) (hm : Own w gm #[v1, v2, v3] 26) (ha : Own w ga #[.int .i64 x] 3) (he : Own w ge #[.int .i64 y] 30) : (results Tryz.f13 tmps).run Tryz.prog w = .ok (.tuple #[.agg #[v1, v2, v3], .int .i64 x, .int .i64 y]) w := by
  have h2' : tmps[2]?.getD undef = .pointer (some ⟨gm, 0, none⟩) := by simpa using h2
  have h3' : tmps[3]?.getD undef = .pointer (some ⟨ga, 0, none⟩) := by simpa using h3
  have h4' : tmps[4]?.getD undef = .pointer (some ⟨ge, 0, none⟩) := by simpa using h4
  have a0 : w.cell? ⟨ga, 0, none⟩ = some (.int .i64 x) := by simpa using ha.cell 0
  have e0 : w.cell? ⟨ge, 0, none⟩ = some (.int .i64 y) := by simpa using he.cell 0
  obtain ⟨m0, m1, m2, -⟩ := hm.c3z
  simp [results, h2', h3', h4', asAddr, go_sem, m0, m1, m2, a0, e0, Result.andThen]
end Go.Proofs.YtmmbdpdpkkikjaaGreat
namespace Go.Proofs.YtmmbdpdpkkikjaaGreat
open Go.RowKit
set_option linter.unusedVariables false

def ldK (K : Mo → Nat) (xs : List Nat) : (Nat × Nat) ⊕ Mo := if 2097152 < xs.length then .inl (0, 3) else match headR xs with
  | .inl x => .inl x
  | .inr E => match rMo (xs.take E) 8 with
    | .inl x => .inl x
    | .inr y => if K y.1 = 0 then .inr y.1 else .inl (0, K y.1)
def LdKRet (K : Mo → Nat) (w : World) (xs : List Nat) (e : Ending) (w' : World) : Prop := (match ldK K xs with
  | .inl x => e = .returned (.tuple #[.agg zMd, .int .i64 (x.1 : Int), .int .i64 (x.2 : Int)])
  | .inr m => ∃ A : MoP, A.mo = m ∧ e = .returned (.tuple #[.agg A.cs, .int .i64 0, .int .i64 0]) ∧ MoIn w' A ∧ vMod w' w.heap.size (.agg A.cs) m) ∧ Below w.heap.size w w'
/-! ### The ways out -/
theorem fin_fault {R : Ending → World → Prop} {tmps : Array Value} {w : World} {gm ga ge : Nat} {at_ er : Int} (h2 : tmps.getD 2 undef = ptr gm) (h3 : tmps.getD 3 undef = ptr ga) (h4 : tmps.getD 4 undef = ptr ge) (hm : Own w gm zMd 26) (ha : Own w ga #[.int .i64 0] 3) (he : Own w ge #[.int .i64 0] 30) (HZ : ∀ w', CaughtAt gm ga ge at_ er w w' → R (.returned (.tuple #[.agg zMd, .int .i64 at_, .int .i64 er])) w') : Leaves Tryz.prog Tryz.f13 tmps R [{ target := .fn (.func 32) #[ptr gm, ptr ga, ptr ge], args := #[] }] (.panicking (fltV at_ er)) w := by
  refine leaves_cons (f := 32) (args := #[ptr gm, ptr ga, ptr ge]) (by simp) (by simp [go_sem]) ?_
  refine (catch_fault gm ga ge at_ er w hm ha he).mono ?_
  rintro e u' w'' ⟨rfl, rfl, hC⟩
  exact ⟨_, results_load h2 h3 h4 hC.m hC.a hC.e, HZ _ hC⟩
theorem fin_idle {R : Ending → World → Prop} {tmps : Array Value} {w : World} {gm ga ge : Nat} {v1 v2 v3 : Value} {x y : Int} (h2 : tmps.getD 2 undef = ptr gm) (h3 : tmps.getD 3 undef = ptr ga) (h4 : tmps.getD 4 undef = ptr ge) (hm : Own w gm #[v1, v2, v3] 26) (ha : Own w ga #[.int .i64 x] 3) (he : Own w ge #[.int .i64 y] 30) (HZ : R (.returned (.tuple #[.agg #[v1, v2, v3], .int .i64 x, .int .i64 y])) w) : Leaves Tryz.prog Tryz.f13 tmps R [{ target := .fn (.func 32) #[ptr gm, ptr ga, ptr ge], args := #[] }] .returning w := by
  refine leaves_cons (f := 32) (args := #[ptr gm, ptr ga, ptr ge]) (by simp) (by simp [go_sem]) ?_
  refine (catch_idle gm ga ge w).mono ?_
  rintro e u' w'' ⟨rfl, rfl, rfl⟩
  exact ⟨_, results_load h2 h3 h4 hm ha he, HZ⟩
/-- What lies around the call: the named results. -/
structure LdC (w w4 : World) (v1 v2 v3 : Value) (x y : Int) : Prop where
  m : Own w4 w.heap.size #[v1, v2, v3] 26
  a : Own w4 (w.heap.size + 1) #[.int .i64 x] 3
  e : Own w4 (w.heap.size + 1 + 1) #[.int .i64 y] 30
  sz : w.heap.size + 1 + 1 + 1 < w4.heap.size
  be : Below w.heap.size w w4
theorem LdC.fr {w w4 w5 : World} {v1 v2 v3 : Value} {x y : Int} (h : LdC w w4 v1 v2 v3 x y) (hf : RFr (w.heap.size + 1 + 1 + 1) w4 w5) : LdC w w5 v1 v2 v3 x y :=
  ⟨h.m.fr hf (by omega), h.a.fr hf (by omega), h.e.fr hf (by omega), Nat.lt_of_lt_of_le h.sz hf.size, below_fr h.be hf (fun g q => by omega)⟩
theorem ldc_start (w : World) (a : Option Addr) (n c : Nat) : LdC w ((((w.alloc (.cells zMd 26)).alloc (.cells #[.int .i64 0] 3)).alloc (.cells #[.int .i64 0] 30)).alloc (.cells #[.slice a n c, .int .i64 0] 69)) (.slice none 0 0) (.slice none 0 0) (.slice none 0 0) 0 0 ∧ Own ((((w.alloc (.cells zMd 26)).alloc (.cells #[.int .i64 0] 3)).alloc (.cells #[.int .i64 0] 30)).alloc (.cells #[.slice a n c, .int .i64 0] 69)) (w.heap.size + 1 + 1 + 1) #[.slice a n c, .int .i64 0] 69 := by
  have h1 := Own.new (w.alloc (.cells zMd 26)) #[.int .i64 0] 3
  rw [World.size_alloc] at h1
  have h2 := Own.new ((w.alloc (.cells zMd 26)).alloc (.cells #[.int .i64 0] 3)) #[.int .i64 0] 30
  rw [World.size_alloc, World.size_alloc] at h2
  have h3 := Own.new (((w.alloc (.cells zMd 26)).alloc (.cells #[.int .i64 0] 3)).alloc (.cells #[.int .i64 0] 30)) #[.slice a n c, .int .i64 0] 69
  rw [World.size_alloc, World.size_alloc, World.size_alloc] at h3
  refine ⟨⟨(((Own.new w zMd 26).alloc _).alloc _).alloc _, (h1.alloc _).alloc _, h2.alloc _, ?_, ?_⟩, h3⟩
  · simp only [World.size_alloc]; omega
  · exact (((new_below w _).alloc (by simp) _).alloc (by simp only [World.size_alloc]; omega) _).alloc (by simp only [World.size_alloc]; omega) _
theorem LdC.caught {w w4 w5 : World} {at_ er : Int} {v1 v2 v3 : Value} {x y : Int} (h : LdC w w4 v1 v2 v3 x y) (k : CaughtAt w.heap.size (w.heap.size + 1) (w.heap.size + 1 + 1) at_ er w4 w5) : Below w.heap.size w w5 := below_fr h.be k.fr (fun g q => by omega)
set_option maxHeartbeats 4000000 in
set_option maxRecDepth 100000 in
theorem load_long (K : Mo → Nat) {w : World} {a : Option Addr} {c : Nat} {xs : List Nat} (hlong : 2097152 < xs.length) (hm64 : xs.length ≤ 9223372036854775807) : Calls Tryz.prog 13 #[.slice a xs.length c] w (LdKRet K w xs) := by
  obtain ⟨R, HR⟩ : ∃ R, Hid (LdKRet K w xs = R) := ⟨_, rfl⟩
  rw [HR.out]
  obtain ⟨n, hn⟩ : ∃ n, xs.length = n := ⟨_, rfl⟩
  have HS : Hid (ldK K xs = .inl (0, 3)) := by unfold Hid ldK; rw [if_pos hlong]
  rw [hn] at hlong hm64
  rw [hn]
  have hlong : (2097152 : Int) < (n : Int) := by omega
  go_enter_defers Tryz.func13, Tryz.ntmps13
  go_wp2_with fail
  have h1 := Own.new (w.alloc (.cells zMd 26)) #[.int .i64 0] 3
  rw [World.size_alloc] at h1
  have h2 := Own.new ((w.alloc (.cells zMd 26)).alloc (.cells #[.int .i64 0] 3)) #[.int .i64 3] 30
  rw [World.size_alloc, World.size_alloc] at h2
  refine ⟨_, results_load (v1 := .slice none 0 0) (v2 := .slice none 0 0) (v3 := .slice none 0 0) (x := 0) (y := 3) rfl rfl rfl (((Own.new w zMd 26).alloc _).alloc _) (h1.alloc _) h2, ?_⟩
  rw [← HR.out]
  unfold LdKRet
  rw [HS.out]
  exact ⟨rfl, ((new_below w _).alloc (by simp) _).alloc (by simp only [World.size_alloc]; omega) _⟩
set_option maxHeartbeats 4000000 in
set_option maxRecDepth 100000 in
theorem load_none (K : Mo → Nat) {w : World} {a : Option Addr} {c : Nat} : Calls Tryz.prog 13 #[.slice a 0 c] w (LdKRet K w []) := by
  obtain ⟨R, HR⟩ : ∃ R, Hid (LdKRet K w [] = R) := ⟨_, rfl⟩
  rw [HR.out]
  have HS : Hid (ldK K [] = .inl (0, 10)) := rfl
  have HC : Hid _ := ldc_start w a 0 c
  have hmf : ∀ (fn : Fn) (first cap : Array Value) (w : World), (Instr.makeFunc fn first cap).run Tryz.prog w = .ok (.func fn first cap) w := fun _ _ _ _ => rfl
  go_enter_defers Tryz.func13, Tryz.ntmps13
  go_wp2_with fail
  generalize ((((w.alloc (.cells zMd 26)).alloc (.cells #[.int .i64 0] 3)).alloc (.cells #[.int .i64 0] 30)).alloc (.cells #[.slice a 0 c, .int .i64 0] 69)) = w4 at *
  refine (rhead_none HC.out.2).mono ?_
  rintro e w5 ⟨rfl, hf⟩
  have HC5 : Hid _ := HC.out.1.fr hf
  clear HC hf
  go_wp2_with fail
  refine fin_fault rfl rfl rfl HC5.out.m HC5.out.a HC5.out.e ?_
  intro w6 hw
  rw [← HR.out]
  unfold LdKRet
  rw [HS.out]
  exact ⟨rfl, HC5.out.caught hw⟩
theorem LdC.setE {w w8 : World} {v1 v2 v3 : Value} {x y : Int} (h : LdC w w8 v1 v2 v3 x y) (y' : Int) : LdC w (w8.setCell ⟨w.heap.size + 1 + 1, 0, none⟩ (.int .i64 y')) v1 v2 v3 x y' :=
  ⟨h.m.other (by omega) _, h.a.other (by omega) _, by simpa using h.e.set 0 (.int .i64 y'), by simpa using h.sz, h.be.setCell (show w.heap.size ≤ w.heap.size + 1 + 1 by omega) _⟩
theorem LdC.setA {w w8 : World} {v1 v2 v3 : Value} {x y : Int} (h : LdC w w8 v1 v2 v3 x y) (x' : Int) : LdC w (w8.setCell ⟨w.heap.size + 1, 0, none⟩ (.int .i64 x')) v1 v2 v3 x' y :=
  ⟨h.m.other (by omega) _, by simpa using h.a.set 0 (.int .i64 x'), h.e.other (by omega) _, by simpa using h.sz, h.be.setCell (show w.heap.size ≤ w.heap.size + 1 by omega) _⟩
theorem LdC.setM {w w8 : World} {v1 v2 v3 : Value} {x y : Int} (h : LdC w w8 v1 v2 v3 x y) (u1 u2 u3 : Value) : LdC w (putM w8 w.heap.size u1 u2 u3) u1 u2 u3 x y :=
  ⟨own_putM h.m u1 u2 u3, ((h.a.other (by omega) _).other (by omega) _).other (by omega) _, ((h.e.other (by omega) _).other (by omega) _).other (by omega) _, by simpa using h.sz, ((h.be.setCell (show w.heap.size ≤ w.heap.size from Nat.le_refl _) _).setCell (show w.heap.size ≤ w.heap.size from Nat.le_refl _) _).setCell (show w.heap.size ≤ w.heap.size from Nat.le_refl _) _⟩
theorem LdC.drew {w w8 : World} {v1 v2 v3 : Value} {x y : Int} (h : LdC w w8 v1 v2 v3 x y) : LdC w w8.drew v1 v2 v3 x y :=
  ⟨h.m.drew, h.a.drew, h.e.drew, h.sz, ⟨h.be.os, h.be.tape, h.be.output, h.be.size, h.be.block⟩⟩
theorem vMod.setC {w : World} {B g : Nat} {v : Value} {m : Mo} (h : vMod w B v m) (hg : g < B) (i : Nat) (u : Value) : vMod (w.setCell ⟨g, i, none⟩ u) B v m := h.fr hg ((Fr.refl (fun b => b = g) w).set (g := g) (.inr rfl) i u)
set_option maxHeartbeats 8000000 in
set_option maxRecDepth 100000 in
theorem load_some (K : Mo → Nat) {w : World} {a : Option Addr} {c : Nat} {xs : List Nat} (hl : Lies w a xs) (hne : xs ≠ []) (hmx : xs.length ≤ 2097152) (hc : xs.length ≤ c) (hcm : c ≤ 9223372036854775807)
    (HCK : ∀ (A : MoP) (W : World), MoIn W A → MoFit A.mo → Calls Tryz.prog 12 #[.agg A.cs] W fun e w' => e = .returned (.int .i64 (K A.mo : Nat)) ∧ Below W.heap.size W w') : Calls Tryz.prog 13 #[.slice a xs.length c] w (LdKRet K w xs) := by
  obtain ⟨R, HR⟩ : ∃ R, Hid (LdKRet K w xs = R) := ⟨_, rfl⟩
  rw [HR.out]
  have HCK : Hid _ := HCK
  have HK0 := ldc_start w a xs.length c
  have hb4 : Below w.heap.size w ((((w.alloc (.cells zMd 26)).alloc (.cells #[.int .i64 0] 3)).alloc (.cells #[.int .i64 0] 30)).alloc (.cells #[.slice a xs.length c, .int .i64 0] 69)) := HK0.1.be
  have hat : ∃ b off, a = some ⟨b, off, none⟩ ∧ b < w.heap.size := by
    rcases hl.2.2 with h0 | ⟨b, off, e, hcl⟩
    · exact absurd h0 hne
    · have hp : 0 < xs.length := List.length_pos_iff.2 hne
      exact ⟨b, off, e, World.block_lt_of_cell? w _ (hcl 0 hp)⟩
  have HRD : Hid (RdAt ((((w.alloc (.cells zMd 26)).alloc (.cells #[.int .i64 0] 3)).alloc (.cells #[.int .i64 0] 30)).alloc (.cells #[.slice a xs.length c, .int .i64 0] 69)) (w.heap.size + 1 + 1 + 1) a c xs 0) := by
    obtain ⟨b, off, e, hb⟩ := hat
    exact ⟨HK0.2, hl.below hb4, Nat.zero_le _, hmx, hc, hcm, ⟨b, off, e⟩, fun b' off' e' _ => by rw [e] at e'; cases e'; omega⟩
  have HC : Hid _ := HK0.1
  have HBY : Hid (∀ c ∈ xs, c < 256) := hl.1
  have hmf : ∀ (fn : Fn) (first cap : Array Value) (w : World), (Instr.makeFunc fn first cap).run Tryz.prog w = .ok (.func fn first cap) w := fun _ _ _ _ => rfl
  have HLE : Hid (ldK K xs = match headR xs with
    | .inl x => .inl x
    | .inr E => match rMo (xs.take E) 8 with
      | .inl x => .inl x
      | .inr y => if K y.1 = 0 then .inr y.1 else .inl (0, K y.1)) := by unfold Hid ldK; rw [if_neg (by omega)]
  have hH := rhead_as HRD.out
  have hle : (xs.length : Int) ≤ 2097152 := by omega
  clear hl hne hmx hc hcm HK0 hb4 hat
  obtain ⟨n, hn⟩ : ∃ n, xs.length = n := ⟨_, rfl⟩
  rw [hn] at HRD HC hH hle
  rw [hn]
  clear hn
  go_enter_defers Tryz.func13, Tryz.ntmps13
  go_wp2_with fail
  generalize ((((w.alloc (.cells zMd 26)).alloc (.cells #[.int .i64 0] 3)).alloc (.cells #[.int .i64 0] 30)).alloc (.cells #[.slice a n c, .int .i64 0] 69)) = w4 at *
  refine hH.mono ?_
  clear hH
  rintro e w5 hh
  unfold HeadRet at hh
  cases hr : headR xs with
  | inl x =>
    rw [hr] at hh
    obtain ⟨rfl, hf⟩ := hh
    have HS : Hid (ldK K xs = .inl x) := by rw [Hid, HLE.out, hr]
    have HC5 : Hid _ := HC.out.fr hf
    clear HC hf hr HLE HRD
    go_wp2_with fail
    refine fin_fault rfl rfl rfl HC5.out.m HC5.out.a HC5.out.e ?_
    intro w6 hw
    rw [← HR.out]
    unfold LdKRet
    rw [HS.out]
    exact ⟨rfl, HC5.out.caught hw⟩
  | inr E =>
    rw [hr] at hh
    obtain ⟨⟨rfl, hd⟩, hf⟩ := hh
    have HC5 : Hid _ := HC.out.fr hf
    have hM := module_reads (w.heap.size + 1 + 1 + 1) a c (xs.take E) w5 8 hd
    have HBT : Hid (∀ c ∈ xs.take E, c < 256) := fun c hc => HBY.out c (List.mem_of_mem_take hc)
    clear HC hf HRD hd HBY
    go_wp2_with fail
    refine hM.mono ?_
    clear hM
    rintro e w6 hh
    unfold RRet at hh
    cases hq : rMo (xs.take E) 8 with
    | inl x =>
      rw [hq] at hh
      obtain ⟨rfl, hf⟩ := hh
      have HS : Hid (ldK K xs = .inl x) := by rw [Hid, HLE.out, hr]; simp only [hq]
      have HC6 : Hid _ := HC5.out.fr hf
      clear HC5 hf hq hr HLE
      go_wp2_with fail
      refine fin_fault rfl rfl rfl HC6.out.m HC6.out.a HC6.out.e ?_
      intro w7 hw
      rw [← HR.out]
      unfold LdKRet
      rw [HS.out]
      exact ⟨rfl, HC6.out.caught hw⟩
    | inr y =>
      obtain ⟨m, q⟩ := y
      rw [hq] at hh
      obtain ⟨⟨v, rfl, hv⟩, hd, hf⟩ := hh
      simp only at hv
      have HS : Hid (ldK K xs = if K m = 0 then .inr m else .inl (0, K m)) := by rw [Hid, HLE.out, hr]; simp only [hq]
      have HC6 : Hid _ := HC5.out.fr hf
      have HFT : Hid (MoFit m) := gives_mo _ _ _ _ hq
      have HCO : Hid (∀ r ∈ m.funcs, ∀ c ∈ r.code, c < 256) := rMo_code HBT.out hq
      obtain ⟨v1, v2, v3, rfl, t1, t2, t3⟩ := hv
      obtain ⟨a1, c1, rfl⟩ := t1.shape
      obtain ⟨a2, c2, rfl⟩ := t2.shape
      obtain ⟨a3, c3, rfl⟩ := t3.shape
      have HVB : Hid (w.heap.size + 1 + 1 + 1 < w5.heap.size) := HC5.out.sz
      have hV6 : vMod w6 w5.heap.size (.agg #[.slice a1 m.types.length c1, .slice a2 m.texts.length c2, .slice a3 m.funcs.length c3]) m := ⟨_, _, _, rfl, t1, t2, t3⟩
      clear t1 t2 t3 hd hf hq hr HLE HC5 HBT
      have HV7 : Hid (vMod (putM w6 w.heap.size (.slice a1 m.types.length c1) (.slice a2 m.texts.length c2) (.slice a3 m.funcs.length c3)) w5.heap.size (.agg #[.slice a1 m.types.length c1, .slice a2 m.texts.length c2, .slice a3 m.funcs.length c3]) m) := by
        have hg : w.heap.size < w5.heap.size := by have := HVB.out; omega
        exact ((hV6.setC hg _ _).setC hg _ _).setC hg _ _
      have HC7 : Hid _ := HC6.out.setM (.slice a1 m.types.length c1) (.slice a2 m.texts.length c2) (.slice a3 m.funcs.length c3)
      obtain ⟨A, hA, hAv, hAi⟩ := vMod_in HV7.out HFT.out HCO.out
      have hCk := HCK.out A _ hAi (by rw [hA]; exact HFT.out)
      rw [hA, ← hAv] at hCk
      clear hA hAv hAi A hV6
      generalize m.types.length = n1 at *
      generalize m.texts.length = n2 at *
      generalize m.funcs.length = n3 at *
      obtain ⟨m0, m1, m2, mf⟩ := HC6.out.m.c3z
      clear HC6
      go_upto_region 7 with fail
      unfold putM at HV7 HC7 hCk
      generalize ((w6.setCell ⟨w.heap.size, 0, none⟩ (.slice a1 n1 c1)).setCell ⟨w.heap.size, 1, none⟩ (.slice a2 n2 c2)).setCell ⟨w.heap.size, 2, none⟩ (.slice a3 n3 c3) = w7 at *
      clear m0 m1 m2 mf
      obtain ⟨m0, m1, m2, mf⟩ := HC7.out.m.c3z
      go_wp2_with fail
      refine hCk.mono ?_
      clear hCk
      rintro e w8 ⟨rfl, hb8⟩
      have HC8 : Hid _ := HC7.out.fr (Fr.of hb8)
      have HV8 : Hid (vMod w8 w5.heap.size (.agg #[.slice a1 n1 c1, .slice a2 n2 c2, .slice a3 n3 c3]) m) := vMod.fr (g := w.heap.size) HV7.out (by have := HVB.out; omega) (Fr.of hb8)
      clear m0 m1 m2 mf hb8 HC7 HV7
      obtain ⟨m0, m1, m2, mf⟩ := HC8.out.m.c3z
      have a0 : w8.cell? ⟨w.heap.size + 1, 0, none⟩ = some (.int .i64 0) := by simpa using HC8.out.a.cell 0
      have e0 : w8.cell? ⟨w.heap.size + 1 + 1, 0, none⟩ = some (.int .i64 0) := by simpa using HC8.out.e.cell 0
      have af := HC8.out.a.froz
      have ef := HC8.out.e.froz
      obtain ⟨k, hk⟩ : ∃ k, K m = k := ⟨_, rfl⟩
      rw [hk] at HS
      rw [hk]
      clear hk
      by_cases hk0 : k = 0
      · subst hk0
        go_wp2
        have hs := HVB.out
        have hC := (((HC8.out.setE 0).setM (.slice a1 n1 c1) (.slice a2 n2 c2) (.slice a3 n3 c3)).setA 0).setE 0
        have hV8 : vMod _ _ _ _ := HV8.out
        have hV := (((((vMod.setC hV8 (g := w.heap.size + 1 + 1) (by omega) 0 (.int .i64 0)).setC (g := w.heap.size) (by omega) 0 (.slice a1 n1 c1)).setC (g := w.heap.size) (by omega) 1 (.slice a2 n2 c2)).setC (g := w.heap.size) (by omega) 2 (.slice a3 n3 c3)).setC (g := w.heap.size + 1) (by omega) 0 (.int .i64 0)).setC (g := w.heap.size + 1 + 1) (by omega) 0 (.int .i64 0)
        obtain ⟨A, hA, hAv, hAi⟩ := vMod_in hV HFT.out HCO.out
        refine fin_idle rfl rfl rfl hC.m hC.a hC.e ?_
        rw [← HR.out]
        unfold LdKRet
        rw [HS.out, if_pos trivial]
        exact ⟨⟨A, hA, by rw [hAv], hAi, by rw [← hAv]; exact hV.mono (by omega)⟩, hC.be⟩
      · have hkb : ((k : Int) == 0) = false := by simp; omega
        have hki : ¬ (k : Int) = 0 := by omega
        have hkn : ((k : Int) != 0) = true := by simp; omega
        have HC9 : Hid _ := HC8.out.setE (k : Int)
        have HS2 : Hid (ldK K xs = .inl (0, k)) := by rw [Hid, HS.out, if_neg hk0]
        go_upto_region 9 with fail
        clear m0 m1 m2 mf a0 e0 af ef HC8 HV8 HS HVB HFT HCO HCK hkb hki hkn hk0
        generalize w8.setCell ⟨w.heap.size + 1 + 1, 0, none⟩ (.int .i64 (k : Int)) = w9 at *
        obtain ⟨m0, m1, m2, mf⟩ := HC9.out.m.c3z
        have a0 : w9.cell? ⟨w.heap.size + 1, 0, none⟩ = some (.int .i64 0) := by simpa using HC9.out.a.cell 0
        have e0 : w9.cell? ⟨w.heap.size + 1 + 1, 0, none⟩ = some (.int .i64 (k : Int)) := by simpa using HC9.out.e.cell 0
        have af := HC9.out.a.froz
        have ef := HC9.out.e.froz
        go_region
        go_wp2
        have hC := (((HC9.out.setM (.slice none 0 0) (.slice none 0 0) (.slice none 0 0)).setA 0).setE (k : Int)).drew
        refine fin_idle rfl rfl rfl hC.m hC.a hC.e ?_
        rw [← HR.out]
        unfold LdKRet
        rw [HS2.out]
        exact ⟨rfl, hC.be⟩
end Go.Proofs.YtmmbdpdpkkikjaaGreat
