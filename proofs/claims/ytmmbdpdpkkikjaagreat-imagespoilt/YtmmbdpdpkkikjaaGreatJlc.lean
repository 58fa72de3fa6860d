/-
  THE READER OF AN IMAGE: functions. (Written by mkrd.py.)
  THE READER OF AN IMAGE: modules. (Written by mkmo.py.)
-/
import Derived.Test.YtmmbdpdpkkikjaaGreatJlb
namespace Go.Proofs.YtmmbdpdpkkikjaaGreat
open Go.RowKit
set_option linter.unusedVariables false

theorem kInt_rows (ms : List Int) : kInt.rows ms = intV ms := by
  induction ms with
  | nil => rfl
  | cons x r ih => exact congrArg (fun z => Value.int .i64 x :: z) ih
theorem Own.c6z {w : World} {g : Nat} {a0 a1 a2 a3 a4 a5 : Value} {t : TypeId} (h : Own w g #[a0, a1, a2, a3, a4, a5] t) : w.cell? ⟨g, 0, none⟩ = some a0 ∧ w.cell? ⟨g, 1, none⟩ = some a1 ∧ w.cell? ⟨g, 2, none⟩ = some a2 ∧ w.cell? ⟨g, 3, none⟩ = some a3 ∧ w.cell? ⟨g, 4, none⟩ = some a4 ∧ w.cell? ⟨g, 5, none⟩ = some a5 ∧ ∀ j, w.frozen? ⟨g, j, none⟩ = false :=
  ⟨by simpa using h.cell 0, by simpa using h.cell 1, by simpa using h.cell 2, by simpa using h.cell 3, by simpa using h.cell 4, by simpa using h.cell 5, h.froz⟩
abbrev zR : Array Value := #[.string ⟨#[]⟩, .slice none 0 0, .slice none 0 0, .int .i64 0, .int .i64 0, .slice none 0 0]
abbrev putR (W : World) (g : Nat) (v0 v1 v2 v3 v4 v5 : Value) : World := (((((W.setCell ⟨g, 0, none⟩ v0).setCell ⟨g, 1, none⟩ v1).setCell ⟨g, 2, none⟩ v2).setCell ⟨g, 3, none⟩ v3).setCell ⟨g, 4, none⟩ v4).setCell ⟨g, 5, none⟩ v5
theorem own_putR {W : World} {g : Nat} {u0 u1 u2 u3 u4 u5 : Value} {t : TypeId} (h : Own W g #[u0, u1, u2, u3, u4, u5] t) (v0 v1 v2 v3 v4 v5 : Value) : Own (putR W g v0 v1 v2 v3 v4 v5) g #[v0, v1, v2, v3, v4, v5] t := by
  simpa using ((((((h.set 0 v0).set 1 v1).set 2 v2).set 3 v3).set 4 v4).set 5 v5)
theorem Rwn.putR {W : World} {e : TypeId} {sz B : Nat} {v : Value} {n : Nat} {xs : List Value} (h : Rwn W e sz B v n xs) {g : Nat} {cs : Array Value} {t : TypeId} (ho : Own W g cs t) (ht : e ≠ t) (v0 v1 v2 v3 v4 v5 : Value) : Rwn (putR W g v0 v1 v2 v3 v4 v5) e sz B v n xs :=
  ((((((h.put ho ht 0 v0).put (ho.set 0 v0) ht 1 v1).put ((ho.set 0 v0).set 1 v1) ht 2 v2).put (((ho.set 0 v0).set 1 v1).set 2 v2) ht 3 v3).put ((((ho.set 0 v0).set 1 v1).set 2 v2).set 3 v3) ht 4 v4).put (((((ho.set 0 v0).set 1 v1).set 2 v2).set 3 v3).set 4 v4) ht 5 v5)
theorem Two.fin6 {w W : World} {r : Nat} {a : Option Addr} {c : Nat} {xs : List Nat} {p q : Nat} {t : TypeId} {z : Array Value} {G1 : Nat} {cs : Array Value} (h : Two w W r a c xs q t z G1 cs) (h0 : RdAt w r a c xs p) (v0 v1 v2 v3 v4 v5 : Value) : RdAt (putR W w.heap.size v0 v1 v2 v3 v4 v5) r a c xs q ∧ RFr r w (putR W w.heap.size v0 v1 v2 v3 v4 v5) := by
  have f2 : RFr r w (putR W w.heap.size v0 v1 v2 v3 v4 v5) := ((((((h.fr.set (g := w.heap.size) (.inl (Nat.le_refl _)) 0 v0).set (g := w.heap.size) (.inl (Nat.le_refl _)) 1 v1).set (g := w.heap.size) (.inl (Nat.le_refl _)) 2 v2).set (g := w.heap.size) (.inl (Nat.le_refl _)) 3 v3).set (g := w.heap.size) (.inl (Nat.le_refl _)) 4 v4).set (g := w.heap.size) (.inl (Nat.le_refl _)) 5 v5)
  have hne : r ≠ w.heap.size := by have := h.rl; omega
  exact ⟨h0.to f2 ((((((h.rd.own.other hne v0).other hne v1).other hne v2).other hne v3).other hne v4).other hne v5) h.rd.le, f2⟩
set_option maxHeartbeats 8000000 in
set_option maxRecDepth 100000 in
theorem routine_reads (r : Nat) (a : Option Addr) (c : Nat) (xs : List Nat) : Reads 64 (vEl kRo) rRo r a c xs := by
  intro w p h
  obtain ⟨R, HR⟩ : ∃ R, Hid (RRet r a c xs (vEl kRo) (rRo xs p) w = R) := ⟨_, rfl⟩
  rw [HR.out]
  have H0 : Hid (RdAt w r a c xs p) := h
  have hrl : Hid (r < w.heap.size) := h.own.lt
  have f0 : RFr r w ((w.alloc (.cells zR 55)).alloc (.cells zR 55)) := ((Fr.refl _ w).alloc _).alloc _
  have HT0 : Hid (Two w ((w.alloc (.cells zR 55)).alloc (.cells zR 55)) r a c xs p 55 zR (w.heap.size + 1) zR) := ⟨h.to f0 ((h.own.alloc _).alloc _) h.le, f0, (Own.new w zR 55).alloc _, by have := Own.new (w.alloc (.cells zR 55)) zR 55; rw [World.size_alloc] at this; exact this, by omega, h.own.lt⟩
  have HE0 : Hid (rRo xs p = (rText xs p).bind fun nm q => (rList 32 rNum xs q).bind fun ps q => (rList 8 rNum xs q).bind fun rs q => (rNum xs q).bind fun lo q => (rNum xs q).bind fun st q => (rCode xs q).bind fun co q => .inr ((⟨nm, ps, rs, lo, st, co⟩ : Ro), q)) := rfl
  clear h f0
  have hX := rtext_as HT0.out.rd
  go_enter Tryz.func64, Tryz.ntmps64
  go_wp2_with fail
  generalize ((w.alloc (.cells zR 55)).alloc (.cells zR 55)) = W0 at *
  generalize hG1 : w.heap.size + 1 = G1 at *
  cases hr : rText xs p with
  | inl x =>
    rw [hr] at hX
    have HZ := fault_of HR (by rw [HE0.out, hr]; rfl) HT0.out.fr
    clear hr HR hrl H0 HT0 HE0 
    refine hX.mono ?_
    rintro e w1 ⟨rfl, hf⟩
    go_wp2
    exact ⟨rfl, HZ.out _ hf⟩
  | inr y =>
    obtain ⟨nm, q1⟩ := y
    rw [hr] at hX
    have HE1 : Hid (rRo xs p = (rList 32 rNum xs q1).bind fun ps q => (rList 8 rNum xs q).bind fun rs q => (rNum xs q).bind fun lo q => (rNum xs q).bind fun st q => (rCode xs q).bind fun co q => .inr ((⟨nm, ps, rs, lo, st, co⟩ : Ro), q)) := by rw [Hid, HE0.out, hr]; rfl
    clear hr HE0
    refine hX.mono ?_
    rintro e w1 ⟨⟨v, rfl, hv⟩, hd, hf⟩
    obtain rfl : v = .string nm := hv
    have T2 := HT0.out.call hd hf
    have HT1s : Hid (Two w (w1.setCell ⟨G1, 0, none⟩ (.string nm)) r a c xs q1 55 zR G1 #[.string nm, .slice none 0 0, .slice none 0 0, .int .i64 0, .int .i64 0, .slice none 0 0]) := T2.set H0.out 0 (.string nm) (by simp)
    obtain ⟨y0, y1, y2, y3, y4, y5, yf⟩ := T2.o1.c6z
    clear T2 hd hf HT0  
    have hX := rcount_as HT1s.out.rd 32 (by omega)
    go_wp2_with fail
    generalize (w1.setCell ⟨G1, 0, none⟩ (.string nm)) = W1 at *
    clear y0 y1 y2 y3 y4 y5 yf
    cases hr : rCount 32 xs q1 with
    | inl x =>
      rw [hr] at hX
      have HZ := fault_of HR (by rw [HE1.out]; unfold rList; rw [hr]; rfl) HT1s.out.fr
      clear hr HR hrl H0 HT1s HE1 
      refine hX.mono ?_
      rintro e w2 ⟨rfl, hf⟩
      go_wp2
      exact ⟨rfl, HZ.out _ hf⟩
    | inr y =>
      obtain ⟨n2, q2⟩ := y
      rw [hr] at hX
      have hn := rCount_in hr
      have HE2 : Hid (rRo xs p = (rSev (rNum xs) n2 q2).bind fun ps q => (rList 8 rNum xs q).bind fun rs q => (rNum xs q).bind fun lo q => (rNum xs q).bind fun st q => (rCode xs q).bind fun co q => .inr ((⟨nm, ps, rs, lo, st, co⟩ : Ro), q)) := by rw [Hid, HE1.out]; unfold rList; rw [hr]; rfl
      clear hr HE1
      refine hX.mono ?_
      rintro e w2 ⟨⟨v, rfl, hv⟩, hd, hf⟩
      obtain rfl : v = .int .i64 (n2 : Int) := hv
      have HT2 : Hid _ := HT1s.out.call hd hf
      have hX := sevInt_as HT2.out.rd n2 (by omega) (number_reads r a c xs)
      clear hd hf HT1s 
      go_wp2_with fail
      cases hr : rSev (rNum xs) n2 q2 with
      | inl x =>
        rw [hr] at hX
        have HZ := fault_of HR (by rw [HE2.out, hr]; rfl) HT2.out.fr
        clear hr HR hrl H0 HT2 HE2 
        refine hX.mono ?_
        rintro e w3 ⟨rfl, hf⟩
        go_wp2
        exact ⟨rfl, HZ.out _ hf⟩
      | inr y =>
        obtain ⟨lps, q3⟩ := y
        rw [hr] at hX
        have HE3 : ∀ ps, ps = lps → Hid (rRo xs p = (rList 8 rNum xs q3).bind fun rs q => (rNum xs q).bind fun lo q => (rNum xs q).bind fun st q => (rCode xs q).bind fun co q => .inr ((⟨nm, ps, rs, lo, st, co⟩ : Ro), q)) := fun ps e => by rw [Hid, HE2.out, hr, e]; rfl
        clear hr HE2
        refine hX.mono ?_
        rintro e w3 ⟨⟨v, rfl, ps, hms, hrow, hnew, -⟩, hd, hf⟩
        have HE3h := HE3 ps (by have h2 : ps.map kInt.sp = lps := hms; rw [← h2]; exact (List.map_id ps).symm)
        clear HE3 hms
        obtain ⟨pa, pc, rfl, -⟩ := hrow.shape
        have T2 := HT2.out.call hd hf
        have HCps3 : Hid (Rwn w3 3 1 w.heap.size (.slice pa ps.length pc) ps.length (intV ps)) := ⟨by rw [← kInt_rows]; exact hrow, fun b e => Nat.le_trans HT2.out.fr.size (hnew b e)⟩
        have HT3s : Hid (Two w (w3.setCell ⟨G1, 1, none⟩ (.slice pa ps.length pc)) r a c xs q3 55 zR G1 #[.string nm, .slice pa ps.length pc, .slice none 0 0, .int .i64 0, .int .i64 0, .slice none 0 0]) := T2.set H0.out 1 (.slice pa ps.length pc) (by simp)
        have HCps3b : Hid (Rwn (w3.setCell ⟨G1, 1, none⟩ (.slice pa ps.length pc)) 3 1 w.heap.size (.slice pa ps.length pc) ps.length (intV ps)) := Rwn.put HCps3.out T2.o1 (by decide) 1 (.slice pa ps.length pc)
        obtain ⟨y0, y1, y2, y3, y4, y5, yf⟩ := T2.o1.c6z
        clear T2 hd hf HT2  HCps3 hrow hnew
        have hX := rcount_as HT3s.out.rd 8 (by omega)
        go_wp2_with fail
        generalize (w3.setCell ⟨G1, 1, none⟩ (.slice pa ps.length pc)) = W3 at *
        clear y0 y1 y2 y3 y4 y5 yf
        cases hr : rCount 8 xs q3 with
        | inl x =>
          rw [hr] at hX
          have HZ := fault_of HR (by rw [HE3h.out]; unfold rList; rw [hr]; rfl) HT3s.out.fr
          clear hr HR hrl H0 HT3s HE3h HCps3b
          refine hX.mono ?_
          rintro e w4 ⟨rfl, hf⟩
          go_wp2
          exact ⟨rfl, HZ.out _ hf⟩
        | inr y =>
          obtain ⟨n4, q4⟩ := y
          rw [hr] at hX
          have hn := rCount_in hr
          have HE4 : Hid (rRo xs p = (rSev (rNum xs) n4 q4).bind fun rs q => (rNum xs q).bind fun lo q => (rNum xs q).bind fun st q => (rCode xs q).bind fun co q => .inr ((⟨nm, ps, rs, lo, st, co⟩ : Ro), q)) := by rw [Hid, HE3h.out]; unfold rList; rw [hr]; rfl
          clear hr HE3h
          refine hX.mono ?_
          rintro e w4 ⟨⟨v, rfl, hv⟩, hd, hf⟩
          obtain rfl : v = .int .i64 (n4 : Int) := hv
          have HT4 : Hid _ := HT3s.out.call hd hf
          have HCps4 : Hid (Rwn w4 3 1 w.heap.size (.slice pa ps.length pc) ps.length (intV ps)) := rwn_fr HCps3b.out hrl.out hf
          have hX := sevInt_as HT4.out.rd n4 (by omega) (number_reads r a c xs)
          clear hd hf HT3s HCps3b
          go_wp2_with fail
          cases hr : rSev (rNum xs) n4 q4 with
          | inl x =>
            rw [hr] at hX
            have HZ := fault_of HR (by rw [HE4.out, hr]; rfl) HT4.out.fr
            clear hr HR hrl H0 HT4 HE4 HCps4
            refine hX.mono ?_
            rintro e w5 ⟨rfl, hf⟩
            go_wp2
            exact ⟨rfl, HZ.out _ hf⟩
          | inr y =>
            obtain ⟨lrs, q5⟩ := y
            rw [hr] at hX
            have HE5 : ∀ rs, rs = lrs → Hid (rRo xs p = (rNum xs q5).bind fun lo q => (rNum xs q).bind fun st q => (rCode xs q).bind fun co q => .inr ((⟨nm, ps, rs, lo, st, co⟩ : Ro), q)) := fun rs e => by rw [Hid, HE4.out, hr, e]; rfl
            clear hr HE4
            refine hX.mono ?_
            rintro e w5 ⟨⟨v, rfl, rs, hms, hrow, hnew, -⟩, hd, hf⟩
            have HE5h := HE5 rs (by have h2 : rs.map kInt.sp = lrs := hms; rw [← h2]; exact (List.map_id rs).symm)
            clear HE5 hms
            obtain ⟨ra, rc, rfl, -⟩ := hrow.shape
            have T2 := HT4.out.call hd hf
            have HCps5 : Hid (Rwn w5 3 1 w.heap.size (.slice pa ps.length pc) ps.length (intV ps)) := rwn_fr HCps4.out hrl.out hf
            have HCrs5 : Hid (Rwn w5 3 1 w.heap.size (.slice ra rs.length rc) rs.length (intV rs)) := ⟨by rw [← kInt_rows]; exact hrow, fun b e => Nat.le_trans HT4.out.fr.size (hnew b e)⟩
            have HT5s : Hid (Two w (w5.setCell ⟨G1, 2, none⟩ (.slice ra rs.length rc)) r a c xs q5 55 zR G1 #[.string nm, .slice pa ps.length pc, .slice ra rs.length rc, .int .i64 0, .int .i64 0, .slice none 0 0]) := T2.set H0.out 2 (.slice ra rs.length rc) (by simp)
            have HCps5b : Hid (Rwn (w5.setCell ⟨G1, 2, none⟩ (.slice ra rs.length rc)) 3 1 w.heap.size (.slice pa ps.length pc) ps.length (intV ps)) := Rwn.put HCps5.out T2.o1 (by decide) 2 (.slice ra rs.length rc)
            have HCrs5b : Hid (Rwn (w5.setCell ⟨G1, 2, none⟩ (.slice ra rs.length rc)) 3 1 w.heap.size (.slice ra rs.length rc) rs.length (intV rs)) := Rwn.put HCrs5.out T2.o1 (by decide) 2 (.slice ra rs.length rc)
            obtain ⟨y0, y1, y2, y3, y4, y5, yf⟩ := T2.o1.c6z
            clear T2 hd hf HT4 HCps4 HCps5 HCrs5 hrow hnew
            have hX := rnumber_as HT5s.out.rd
            go_wp2_with fail
            generalize (w5.setCell ⟨G1, 2, none⟩ (.slice ra rs.length rc)) = W5 at *
            clear y0 y1 y2 y3 y4 y5 yf
            cases hr : rNum xs q5 with
            | inl x =>
              rw [hr] at hX
              have HZ := fault_of HR (by rw [HE5h.out, hr]; rfl) HT5s.out.fr
              clear hr HR hrl H0 HT5s HE5h HCps5b HCrs5b
              refine hX.mono ?_
              rintro e w6 ⟨rfl, hf⟩
              go_wp2
              exact ⟨rfl, HZ.out _ hf⟩
            | inr y =>
              obtain ⟨lo, q6⟩ := y
              rw [hr] at hX
              have HE6 : Hid (rRo xs p = (rNum xs q6).bind fun st q => (rCode xs q).bind fun co q => .inr ((⟨nm, ps, rs, lo, st, co⟩ : Ro), q)) := by rw [Hid, HE5h.out, hr]; rfl
              clear hr HE5h
              refine hX.mono ?_
              rintro e w6 ⟨⟨v, rfl, hv⟩, hd, hf⟩
              obtain rfl : v = .int .i64 lo := hv
              have T2 := HT5s.out.call hd hf
              have HCps6 : Hid (Rwn w6 3 1 w.heap.size (.slice pa ps.length pc) ps.length (intV ps)) := rwn_fr HCps5b.out hrl.out hf
              have HCrs6 : Hid (Rwn w6 3 1 w.heap.size (.slice ra rs.length rc) rs.length (intV rs)) := rwn_fr HCrs5b.out hrl.out hf
              have HT6s : Hid (Two w (w6.setCell ⟨G1, 3, none⟩ (.int .i64 lo)) r a c xs q6 55 zR G1 #[.string nm, .slice pa ps.length pc, .slice ra rs.length rc, .int .i64 lo, .int .i64 0, .slice none 0 0]) := T2.set H0.out 3 (.int .i64 lo) (by simp)
              have HCps6b : Hid (Rwn (w6.setCell ⟨G1, 3, none⟩ (.int .i64 lo)) 3 1 w.heap.size (.slice pa ps.length pc) ps.length (intV ps)) := Rwn.put HCps6.out T2.o1 (by decide) 3 (.int .i64 lo)
              have HCrs6b : Hid (Rwn (w6.setCell ⟨G1, 3, none⟩ (.int .i64 lo)) 3 1 w.heap.size (.slice ra rs.length rc) rs.length (intV rs)) := Rwn.put HCrs6.out T2.o1 (by decide) 3 (.int .i64 lo)
              obtain ⟨y0, y1, y2, y3, y4, y5, yf⟩ := T2.o1.c6z
              clear T2 hd hf HT5s HCps5b HCrs5b HCps6 HCrs6
              have hX := rnumber_as HT6s.out.rd
              go_wp2_with fail
              generalize (w6.setCell ⟨G1, 3, none⟩ (.int .i64 lo)) = W6 at *
              clear y0 y1 y2 y3 y4 y5 yf
              cases hr : rNum xs q6 with
              | inl x =>
                rw [hr] at hX
                have HZ := fault_of HR (by rw [HE6.out, hr]; rfl) HT6s.out.fr
                clear hr HR hrl H0 HT6s HE6 HCps6b HCrs6b
                refine hX.mono ?_
                rintro e w7 ⟨rfl, hf⟩
                go_wp2
                exact ⟨rfl, HZ.out _ hf⟩
              | inr y =>
                obtain ⟨st, q7⟩ := y
                rw [hr] at hX
                have HE7 : Hid (rRo xs p = (rCode xs q7).bind fun co q => .inr ((⟨nm, ps, rs, lo, st, co⟩ : Ro), q)) := by rw [Hid, HE6.out, hr]; rfl
                clear hr HE6
                refine hX.mono ?_
                rintro e w7 ⟨⟨v, rfl, hv⟩, hd, hf⟩
                obtain rfl : v = .int .i64 st := hv
                have T2 := HT6s.out.call hd hf
                have HCps7 : Hid (Rwn w7 3 1 w.heap.size (.slice pa ps.length pc) ps.length (intV ps)) := rwn_fr HCps6b.out hrl.out hf
                have HCrs7 : Hid (Rwn w7 3 1 w.heap.size (.slice ra rs.length rc) rs.length (intV rs)) := rwn_fr HCrs6b.out hrl.out hf
                have HT7s : Hid (Two w (w7.setCell ⟨G1, 4, none⟩ (.int .i64 st)) r a c xs q7 55 zR G1 #[.string nm, .slice pa ps.length pc, .slice ra rs.length rc, .int .i64 lo, .int .i64 st, .slice none 0 0]) := T2.set H0.out 4 (.int .i64 st) (by simp)
                have HCps7b : Hid (Rwn (w7.setCell ⟨G1, 4, none⟩ (.int .i64 st)) 3 1 w.heap.size (.slice pa ps.length pc) ps.length (intV ps)) := Rwn.put HCps7.out T2.o1 (by decide) 4 (.int .i64 st)
                have HCrs7b : Hid (Rwn (w7.setCell ⟨G1, 4, none⟩ (.int .i64 st)) 3 1 w.heap.size (.slice ra rs.length rc) rs.length (intV rs)) := Rwn.put HCrs7.out T2.o1 (by decide) 4 (.int .i64 st)
                obtain ⟨y0, y1, y2, y3, y4, y5, yf⟩ := T2.o1.c6z
                clear T2 hd hf HT6s HCps6b HCrs6b HCps7 HCrs7
                have hX := rcode_as HT7s.out.rd
                go_wp2_with fail
                generalize (w7.setCell ⟨G1, 4, none⟩ (.int .i64 st)) = W7 at *
                clear y0 y1 y2 y3 y4 y5 yf
                cases hr : rCode xs q7 with
                | inl x =>
                  rw [hr] at hX
                  have HZ := fault_of HR (by rw [HE7.out, hr]; rfl) HT7s.out.fr
                  clear hr HR hrl H0 HT7s HE7 HCps7b HCrs7b
                  refine hX.mono ?_
                  rintro e w8 ⟨rfl, hf⟩
                  go_wp2
                  exact ⟨rfl, HZ.out _ hf⟩
                | inr y =>
                  obtain ⟨co, q8⟩ := y
                  rw [hr] at hX
                  have HE8 : Hid (rRo xs p = .inr ((⟨nm, ps, rs, lo, st, co⟩ : Ro), q8)) := by rw [Hid, HE7.out, hr]; rfl
                  clear hr HE7
                  refine hX.mono ?_
                  rintro e w8 ⟨⟨v, rfl, hrow, hnew⟩, hd, hf⟩
                  obtain ⟨ca, cc, rfl, -⟩ := hrow.shape
                  have T2 := HT7s.out.call hd hf
                  have HCps8 : Hid (Rwn w8 3 1 w.heap.size (.slice pa ps.length pc) ps.length (intV ps)) := rwn_fr HCps7b.out hrl.out hf
                  have HCrs8 : Hid (Rwn w8 3 1 w.heap.size (.slice ra rs.length rc) rs.length (intV rs)) := rwn_fr HCrs7b.out hrl.out hf
                  have HCco8 : Hid (Rwn w8 5 1 w.heap.size (.slice ca co.length cc) co.length (nums co)) := ⟨hrow, fun b e => Nat.le_trans HT7s.out.fr.size (hnew b e)⟩
                  have HT8s : Hid (Two w (w8.setCell ⟨G1, 5, none⟩ (.slice ca co.length cc)) r a c xs q8 55 zR G1 #[.string nm, .slice pa ps.length pc, .slice ra rs.length rc, .int .i64 lo, .int .i64 st, .slice ca co.length cc]) := T2.set H0.out 5 (.slice ca co.length cc) (by simp)
                  have HCps8b : Hid (Rwn (w8.setCell ⟨G1, 5, none⟩ (.slice ca co.length cc)) 3 1 w.heap.size (.slice pa ps.length pc) ps.length (intV ps)) := Rwn.put HCps8.out T2.o1 (by decide) 5 (.slice ca co.length cc)
                  have HCrs8b : Hid (Rwn (w8.setCell ⟨G1, 5, none⟩ (.slice ca co.length cc)) 3 1 w.heap.size (.slice ra rs.length rc) rs.length (intV rs)) := Rwn.put HCrs8.out T2.o1 (by decide) 5 (.slice ca co.length cc)
                  have HCco8b : Hid (Rwn (w8.setCell ⟨G1, 5, none⟩ (.slice ca co.length cc)) 5 1 w.heap.size (.slice ca co.length cc) co.length (nums co)) := Rwn.put HCco8.out T2.o1 (by decide) 5 (.slice ca co.length cc)
                  obtain ⟨y0, y1, y2, y3, y4, y5, yf⟩ := T2.o1.c6z
                  obtain ⟨z0, z1, z2, z3, z4, z5, zf⟩ := T2.o0.c6z
                  have hgg : ¬ G1 = w.heap.size := by have := T2.g1; omega
                  have hgg2 : ¬ w.heap.size = G1 := by have := T2.g1; omega
                  clear T2 hd hf HT7s HCps7b HCrs7b HCps8 HCrs8 HCco8 hrow hnew
                  have HZ := good_of HR (show rRo xs p = .inr ((⟨nm, ps, rs, lo, st, co⟩ : Ro), q8) from HE8.out)
                  have HFIN : Hid (Own (putR (w8.setCell ⟨G1, 5, none⟩ (.slice ca co.length cc)) w.heap.size (.string nm) (.slice pa ps.length pc) (.slice ra rs.length rc) (.int .i64 lo) (.int .i64 st) (.slice ca co.length cc)) w.heap.size #[.string nm, .slice pa ps.length pc, .slice ra rs.length rc, .int .i64 lo, .int .i64 st, .slice ca co.length cc] 55) := own_putR HT8s.out.o0 _ _ _ _ _ _
                  have hZ : Hid (R (.returned (.agg #[.string nm, .slice pa ps.length pc, .slice ra rs.length rc, .int .i64 lo, .int .i64 st, .slice ca co.length cc])) (putR (w8.setCell ⟨G1, 5, none⟩ (.slice ca co.length cc)) w.heap.size (.string nm) (.slice pa ps.length pc) (.slice ra rs.length rc) (.int .i64 lo) (.int .i64 st) (.slice ca co.length cc))) := HZ.out _ _ ⟨⟨⟨nm, ps, rs, lo, st, co⟩, pa, pc, ra, rc, ca, cc⟩, rfl, rfl, Rwn.putR HCps8b.out HT8s.out.o0 (by decide) _ _ _ _ _ _, Rwn.putR HCrs8b.out HT8s.out.o0 (by decide) _ _ _ _ _ _, Rwn.putR HCco8b.out HT8s.out.o0 (by decide) _ _ _ _ _ _⟩ (HT8s.out.fin6 H0.out _ _ _ _ _ _).1 (HT8s.out.fin6 H0.out _ _ _ _ _ _).2
                  clear HZ H0 hrl HT8s HCps8b HCrs8b HCco8b HE8 HR
                  generalize w.heap.size = G0 at *
                  generalize ps.length = Lps at *
                  generalize rs.length = Lrs at *
                  generalize co.length = Lco at *
                  dsimp only at *
                  go_wp2
                  refine bodyPost_cell1 (g := G0) (t := 55) rfl rfl rfl HFIN.out Tryz.underlying55 rfl (by kernel_rfl) ?_
                  exact hZ.out
end Go.Proofs.YtmmbdpdpkkikjaaGreat
namespace Go.Proofs.YtmmbdpdpkkikjaaGreat
open Go.RowKit
set_option linter.unusedVariables false

theorem Own.c3z {w : World} {g : Nat} {a0 a1 a2 : Value} {t : TypeId} (h : Own w g #[a0, a1, a2] t) : w.cell? ⟨g, 0, none⟩ = some a0 ∧ w.cell? ⟨g, 1, none⟩ = some a1 ∧ w.cell? ⟨g, 2, none⟩ = some a2 ∧ ∀ j, w.frozen? ⟨g, j, none⟩ = false :=
  ⟨by simpa using h.cell 0, by simpa using h.cell 1, by simpa using h.cell 2, h.froz⟩
/-- What lies outside a module's own block. -/
def Kd.Off {μ α : Type} (K : Kd μ α) : Prop := K.e ≠ 26 ∧ ∀ (w : World) (B : Nat) (m : μ) (g : Nat) (cs : Array Value) (i : Nat) (u : Value), K.ok w B m → Own w g cs 26 → K.ok (w.setCell ⟨g, i, none⟩ u) B m
theorem kTxt_off : kTxt.Off := ⟨by decide, fun _ _ _ _ _ _ _ _ _ => trivial⟩
theorem kTy_off : kTy.Off := ⟨by decide, fun w B m g cs i u h ho => Rwn.put h ho (by decide) i u⟩
theorem kRo_off : kRo.Off := ⟨by decide, fun w B m g cs i u h ho => ⟨Rwn.put h.1 ho (by decide) i u, Rwn.put h.2.1 ho (by decide) i u, Rwn.put h.2.2 ho (by decide) i u⟩⟩
theorem vSev.put {μ α : Type} {K : Kd μ α} (O : K.Off) {w : World} {B : Nat} {v : Value} {l : List α} (h : vSev K w B v l) {g : Nat} {cs : Array Value} (ho : Own w g cs 26) (i : Nat) (u : Value) : vSev K (w.setCell ⟨g, i, none⟩ u) B v l := by
  obtain ⟨ms, e, h1, h2, h3⟩ := h
  exact ⟨ms, e, h1.set (h1.ne ho O.1) i u, h2, fun m hm => O.2 w B m g cs i u (h3 m hm) ho⟩
theorem vSev.drewN {μ α : Type} {K : Kd μ α} (G : K.Good) {w : World} {B r : Nat} {v : Value} {l : List α} (h : vSev K w B v l) (hr : r < B) (k : Nat) : vSev K (w.drewN k) B v l := h.fr G (r := r) hr ((Fr.refl _ w).drewN k)
theorem Two.drewN {w W : World} {r : Nat} {a : Option Addr} {c : Nat} {xs : List Nat} {q : Nat} {t : TypeId} {z : Array Value} {G1 : Nat} {cs : Array Value} (h : Two w W r a c xs q t z G1 cs) (k : Nat) : Two w (W.drewN k) r a c xs q t z G1 cs :=
  h.call (h.rd.to ((Fr.refl _ W).drewN k) (h.rd.own.drewN k) h.rd.le) ((Fr.refl _ W).drewN k)
abbrev putM (W : World) (g : Nat) (v0 v1 v2 : Value) : World := ((W.setCell ⟨g, 0, none⟩ v0).setCell ⟨g, 1, none⟩ v1).setCell ⟨g, 2, none⟩ v2
theorem own_putM {W : World} {g : Nat} {u0 u1 u2 : Value} {t : TypeId} (h : Own W g #[u0, u1, u2] t) (v0 v1 v2 : Value) : Own (putM W g v0 v1 v2) g #[v0, v1, v2] t := by
  simpa using ((h.set 0 v0).set 1 v1).set 2 v2
theorem vSev.putM {μ α : Type} {K : Kd μ α} (O : K.Off) {w : World} {B : Nat} {v : Value} {l : List α} (h : vSev K w B v l) {g : Nat} {cs : Array Value} (ho : Own w g cs 26) (v0 v1 v2 : Value) : vSev K (putM w g v0 v1 v2) B v l :=
  ((h.put O ho 0 v0).put O (ho.set 0 v0) 1 v1).put O ((ho.set 0 v0).set 1 v1) 2 v2
theorem Two.fin3 {w W : World} {r : Nat} {a : Option Addr} {c : Nat} {xs : List Nat} {p q : Nat} {t : TypeId} {z : Array Value} {G1 : Nat} {cs : Array Value} (h : Two w W r a c xs q t z G1 cs) (h0 : RdAt w r a c xs p) (v0 v1 v2 : Value) : RdAt (putM W w.heap.size v0 v1 v2) r a c xs q ∧ RFr r w (putM W w.heap.size v0 v1 v2) := by
  have f2 : RFr r w (putM W w.heap.size v0 v1 v2) := ((h.fr.set (g := w.heap.size) (.inl (Nat.le_refl _)) 0 v0).set (g := w.heap.size) (.inl (Nat.le_refl _)) 1 v1).set (g := w.heap.size) (.inl (Nat.le_refl _)) 2 v2
  have hne : r ≠ w.heap.size := by have := h.rl; omega
  exact ⟨h0.to f2 (((h.rd.own.other hne v0).other hne v1).other hne v2) h.rd.le, f2⟩
abbrev zMd : Array Value := #[.slice none 0 0, .slice none 0 0, .slice none 0 0]
def vMod : World → Nat → Value → Mo → Prop := fun w B v m => ∃ v1 v2 v3, v = .agg #[v1, v2, v3] ∧ vSev kTy w B v1 m.types ∧ vSev kTxt w B v2 m.texts ∧ vSev kRo w B v3 m.funcs
set_option maxHeartbeats 8000000 in
set_option maxRecDepth 100000 in
theorem module_reads (r : Nat) (a : Option Addr) (c : Nat) (xs : List Nat) : Reads 34 vMod rMo r a c xs := by
  intro w p h
  obtain ⟨R, HR⟩ : ∃ R, Hid (RRet r a c xs vMod (rMo xs p) w = R) := ⟨_, rfl⟩
  rw [HR.out]
  have H0 : Hid (RdAt w r a c xs p) := h
  have hrl : Hid (r < w.heap.size) := h.own.lt
  have f0 : RFr r w ((w.alloc (.cells zMd 26)).alloc (.cells zMd 26)) := ((Fr.refl _ w).alloc _).alloc _
  have HT0 : Hid (Two w ((w.alloc (.cells zMd 26)).alloc (.cells zMd 26)) r a c xs p 26 zMd (w.heap.size + 1) zMd) := ⟨h.to f0 ((h.own.alloc _).alloc _) h.le, f0, (Own.new w zMd 26).alloc _, by have := Own.new (w.alloc (.cells zMd 26)) zMd 26; rw [World.size_alloc] at this; exact this, by omega, h.own.lt⟩
  have HE0 : Hid (rMo xs p = (rList 256 rTy xs p).bind fun ts q => (rList 32768 rText xs q).bind fun ss q => (rList 256 rRo xs q).bind fun fs q => (if q < xs.length then .inl (q, 130) else .inr ((⟨ts, ss, fs⟩ : Mo), q))) := rfl
  clear h f0
  have hX := rcount_as HT0.out.rd 256 (by omega)
  go_enter Tryz.func34, Tryz.ntmps34
  go_wp2_with fail
  generalize ((w.alloc (.cells zMd 26)).alloc (.cells zMd 26)) = W0 at *
  generalize hG1 : w.heap.size + 1 = G1 at *
  cases hr : rCount 256 xs p with
  | inl x =>
    rw [hr] at hX
    have HZ := fault_of HR (by rw [HE0.out]; unfold rList; rw [hr]; rfl) HT0.out.fr
    clear hr HR hrl H0 HT0 HE0 
    refine hX.mono ?_
    rintro e w1 ⟨rfl, hf⟩
    go_wp2
    exact ⟨rfl, HZ.out _ hf⟩
  | inr y =>
    obtain ⟨n1, q1⟩ := y
    rw [hr] at hX
    have hn := rCount_in hr
    have HE1 : Hid (rMo xs p = (rSev (rTy xs) n1 q1).bind fun ts q => (rList 32768 rText xs q).bind fun ss q => (rList 256 rRo xs q).bind fun fs q => (if q < xs.length then .inl (q, 130) else .inr ((⟨ts, ss, fs⟩ : Mo), q))) := by rw [Hid, HE0.out]; unfold rList; rw [hr]; rfl
    clear hr HE0
    refine hX.mono ?_
    rintro e w1 ⟨⟨v, rfl, hv⟩, hd, hf⟩
    obtain rfl : v = .int .i64 (n1 : Int) := hv
    have HT1 : Hid _ := HT0.out.call hd hf
    have hX := sevTy_as HT1.out.rd n1 (by omega) (typ_reads r a c xs)
    clear hd hf HT0 
    go_wp2_with fail
    cases hr : rSev (rTy xs) n1 q1 with
    | inl x =>
      rw [hr] at hX
      have HZ := fault_of HR (by rw [HE1.out, hr]; rfl) HT1.out.fr
      clear hr HR hrl H0 HT1 HE1 
      refine hX.mono ?_
      rintro e w2 ⟨rfl, hf⟩
      go_wp2
      exact ⟨rfl, HZ.out _ hf⟩
    | inr y =>
      obtain ⟨ts, q2⟩ := y
      rw [hr] at hX
      have HE2 : Hid (rMo xs p = (rList 32768 rText xs q2).bind fun ss q => (rList 256 rRo xs q).bind fun fs q => (if q < xs.length then .inl (q, 130) else .inr ((⟨ts, ss, fs⟩ : Mo), q))) := by rw [Hid, HE1.out, hr]; rfl
      clear hr HE1
      refine hX.mono ?_
      rintro e w2 ⟨⟨v, rfl, hv⟩, hd, hf⟩
      have hv2 : vSev kTy w2 _ v ts := hv
      obtain ⟨ta, tc, e⟩ := hv2.shape
      subst e
      have T2 := HT1.out.call hd hf
      have HCts2 : Hid (vSev kTy w2 w.heap.size (.slice ta ts.length tc) ts) := hv2.mono kTy_good HT1.out.fr.size
      have HT2s : Hid (Two w (w2.setCell ⟨G1, 0, none⟩ (.slice ta ts.length tc)) r a c xs q2 26 zMd G1 #[.slice ta ts.length tc, .slice none 0 0, .slice none 0 0]) := T2.set H0.out 0 (.slice ta ts.length tc) (by simp)
      have HCts2b : Hid (vSev kTy (w2.setCell ⟨G1, 0, none⟩ (.slice ta ts.length tc)) w.heap.size (.slice ta ts.length tc) ts) := vSev.put kTy_off HCts2.out T2.o1 0 (.slice ta ts.length tc)
      obtain ⟨y0, y1, y2, yf⟩ := T2.o1.c3z
      clear T2 hd hf hv hv2 HT1  HCts2
      have hX := rcount_as HT2s.out.rd 32768 (by omega)
      go_wp2_with fail
      generalize (w2.setCell ⟨G1, 0, none⟩ (.slice ta ts.length tc)) = W2 at *
      clear y0 y1 y2 yf
      cases hr : rCount 32768 xs q2 with
      | inl x =>
        rw [hr] at hX
        have HZ := fault_of HR (by rw [HE2.out]; unfold rList; rw [hr]; rfl) HT2s.out.fr
        clear hr HR hrl H0 HT2s HE2 HCts2b
        refine hX.mono ?_
        rintro e w3 ⟨rfl, hf⟩
        go_wp2
        exact ⟨rfl, HZ.out _ hf⟩
      | inr y =>
        obtain ⟨n3, q3⟩ := y
        rw [hr] at hX
        have hn := rCount_in hr
        have HE3 : Hid (rMo xs p = (rSev (rText xs) n3 q3).bind fun ss q => (rList 256 rRo xs q).bind fun fs q => (if q < xs.length then .inl (q, 130) else .inr ((⟨ts, ss, fs⟩ : Mo), q))) := by rw [Hid, HE2.out]; unfold rList; rw [hr]; rfl
        clear hr HE2
        refine hX.mono ?_
        rintro e w3 ⟨⟨v, rfl, hv⟩, hd, hf⟩
        obtain rfl : v = .int .i64 (n3 : Int) := hv
        have HT3 : Hid _ := HT2s.out.call hd hf
        have HCts3 : Hid (vSev kTy w3 w.heap.size (.slice ta ts.length tc) ts) := vSev.fr kTy_good HCts2b.out hrl.out hf
        have hX := sevTxt_as HT3.out.rd n3 (by omega) (text_reads r a c xs)
        clear hd hf HT2s HCts2b
        go_wp2_with fail
        cases hr : rSev (rText xs) n3 q3 with
        | inl x =>
          rw [hr] at hX
          have HZ := fault_of HR (by rw [HE3.out, hr]; rfl) HT3.out.fr
          clear hr HR hrl H0 HT3 HE3 HCts3
          refine hX.mono ?_
          rintro e w4 ⟨rfl, hf⟩
          go_wp2
          exact ⟨rfl, HZ.out _ hf⟩
        | inr y =>
          obtain ⟨ss, q4⟩ := y
          rw [hr] at hX
          have HE4 : Hid (rMo xs p = (rList 256 rRo xs q4).bind fun fs q => (if q < xs.length then .inl (q, 130) else .inr ((⟨ts, ss, fs⟩ : Mo), q))) := by rw [Hid, HE3.out, hr]; rfl
          clear hr HE3
          refine hX.mono ?_
          rintro e w4 ⟨⟨v, rfl, hv⟩, hd, hf⟩
          have hv2 : vSev kTxt w4 _ v ss := hv
          obtain ⟨sa, sc, e⟩ := hv2.shape
          subst e
          have T2 := HT3.out.call hd hf
          have HCts4 : Hid (vSev kTy w4 w.heap.size (.slice ta ts.length tc) ts) := vSev.fr kTy_good HCts3.out hrl.out hf
          have HCss4 : Hid (vSev kTxt w4 w.heap.size (.slice sa ss.length sc) ss) := hv2.mono kTxt_good HT3.out.fr.size
          have HT4s : Hid (Two w (w4.setCell ⟨G1, 1, none⟩ (.slice sa ss.length sc)) r a c xs q4 26 zMd G1 #[.slice ta ts.length tc, .slice sa ss.length sc, .slice none 0 0]) := T2.set H0.out 1 (.slice sa ss.length sc) (by simp)
          have HCts4b : Hid (vSev kTy (w4.setCell ⟨G1, 1, none⟩ (.slice sa ss.length sc)) w.heap.size (.slice ta ts.length tc) ts) := vSev.put kTy_off HCts4.out T2.o1 1 (.slice sa ss.length sc)
          have HCss4b : Hid (vSev kTxt (w4.setCell ⟨G1, 1, none⟩ (.slice sa ss.length sc)) w.heap.size (.slice sa ss.length sc) ss) := vSev.put kTxt_off HCss4.out T2.o1 1 (.slice sa ss.length sc)
          obtain ⟨y0, y1, y2, yf⟩ := T2.o1.c3z
          clear T2 hd hf hv hv2 HT3 HCts3 HCts4 HCss4
          have hX := rcount_as HT4s.out.rd 256 (by omega)
          go_wp2_with fail
          generalize (w4.setCell ⟨G1, 1, none⟩ (.slice sa ss.length sc)) = W4 at *
          clear y0 y1 y2 yf
          cases hr : rCount 256 xs q4 with
          | inl x =>
            rw [hr] at hX
            have HZ := fault_of HR (by rw [HE4.out]; unfold rList; rw [hr]; rfl) HT4s.out.fr
            clear hr HR hrl H0 HT4s HE4 HCts4b HCss4b
            refine hX.mono ?_
            rintro e w5 ⟨rfl, hf⟩
            go_wp2
            exact ⟨rfl, HZ.out _ hf⟩
          | inr y =>
            obtain ⟨n5, q5⟩ := y
            rw [hr] at hX
            have hn := rCount_in hr
            have HE5 : Hid (rMo xs p = (rSev (rRo xs) n5 q5).bind fun fs q => (if q < xs.length then .inl (q, 130) else .inr ((⟨ts, ss, fs⟩ : Mo), q))) := by rw [Hid, HE4.out]; unfold rList; rw [hr]; rfl
            clear hr HE4
            refine hX.mono ?_
            rintro e w5 ⟨⟨v, rfl, hv⟩, hd, hf⟩
            obtain rfl : v = .int .i64 (n5 : Int) := hv
            have HT5 : Hid _ := HT4s.out.call hd hf
            have HCts5 : Hid (vSev kTy w5 w.heap.size (.slice ta ts.length tc) ts) := vSev.fr kTy_good HCts4b.out hrl.out hf
            have HCss5 : Hid (vSev kTxt w5 w.heap.size (.slice sa ss.length sc) ss) := vSev.fr kTxt_good HCss4b.out hrl.out hf
            have hX := sevRo_as HT5.out.rd n5 (by omega) (routine_reads r a c xs)
            clear hd hf HT4s HCts4b HCss4b
            go_wp2_with fail
            cases hr : rSev (rRo xs) n5 q5 with
            | inl x =>
              rw [hr] at hX
              have HZ := fault_of HR (by rw [HE5.out, hr]; rfl) HT5.out.fr
              clear hr HR hrl H0 HT5 HE5 HCts5 HCss5
              refine hX.mono ?_
              rintro e w6 ⟨rfl, hf⟩
              go_wp2
              exact ⟨rfl, HZ.out _ hf⟩
            | inr y =>
              obtain ⟨fs, q6⟩ := y
              rw [hr] at hX
              have HE6 : Hid (rMo xs p = (if q6 < xs.length then .inl (q6, 130) else .inr ((⟨ts, ss, fs⟩ : Mo), q6))) := by rw [Hid, HE5.out, hr]; rfl
              clear hr HE5
              refine hX.mono ?_
              rintro e w6 ⟨⟨v, rfl, hv⟩, hd, hf⟩
              have hv2 : vSev kRo w6 _ v fs := hv
              obtain ⟨fa, fc, e⟩ := hv2.shape
              subst e
              have T2 := HT5.out.call hd hf
              have HCts6 : Hid (vSev kTy w6 w.heap.size (.slice ta ts.length tc) ts) := vSev.fr kTy_good HCts5.out hrl.out hf
              have HCss6 : Hid (vSev kTxt w6 w.heap.size (.slice sa ss.length sc) ss) := vSev.fr kTxt_good HCss5.out hrl.out hf
              have HCfs6 : Hid (vSev kRo w6 w.heap.size (.slice fa fs.length fc) fs) := hv2.mono kRo_good HT5.out.fr.size
              have HT6s : Hid (Two w (w6.setCell ⟨G1, 2, none⟩ (.slice fa fs.length fc)) r a c xs q6 26 zMd G1 #[.slice ta ts.length tc, .slice sa ss.length sc, .slice fa fs.length fc]) := T2.set H0.out 2 (.slice fa fs.length fc) (by simp)
              have HCts6b : Hid (vSev kTy (w6.setCell ⟨G1, 2, none⟩ (.slice fa fs.length fc)) w.heap.size (.slice ta ts.length tc) ts) := vSev.put kTy_off HCts6.out T2.o1 2 (.slice fa fs.length fc)
              have HCss6b : Hid (vSev kTxt (w6.setCell ⟨G1, 2, none⟩ (.slice fa fs.length fc)) w.heap.size (.slice sa ss.length sc) ss) := vSev.put kTxt_off HCss6.out T2.o1 2 (.slice fa fs.length fc)
              have HCfs6b : Hid (vSev kRo (w6.setCell ⟨G1, 2, none⟩ (.slice fa fs.length fc)) w.heap.size (.slice fa fs.length fc) fs) := vSev.put kRo_off HCfs6.out T2.o1 2 (.slice fa fs.length fc)
              obtain ⟨y0, y1, y2, yf⟩ := T2.o1.c3z
              clear T2 hd hf hv hv2 HT5 HCts5 HCss5 HCts6 HCss6 HCfs6
              go_upto_region 5 with fail
              clear y0 y1 y2 yf
              generalize (w6.setCell ⟨G1, 2, none⟩ (.slice fa fs.length fc)) = W6 at *
              obtain ⟨x0, x1, xf⟩ := own2 HT6s.out.rd.own
              have hgg : ¬ G1 = w.heap.size := by have := HT6s.out.g1; omega
              have hgg2 : ¬ w.heap.size = G1 := by have := HT6s.out.g1; omega
              have hqm : (q6 : Int) ≤ 2097152 ∧ (xs.length : Int) ≤ 2097152 := by have := HT6s.out.rd.le; have := HT6s.out.rd.mx; omega
              by_cases hq : q6 < xs.length
              · have hqi : (q6 : Int) < (xs.length : Int) := by omega
                have hC : ∀ k, Calls Tryz.prog 57 #[ptr r, .int .i64 (q6 : Int), .int .i64 130] (W6.drewN k) fun e w' => e = .panicked (fltV (q6 : Int) 130) ∧ W6.drewN k = w' := fun k => giveUp_as r (q6 : Int) 130 _
                have HZ : Hid (∀ k, R (.panicked (fltV (q6 : Int) 130)) (W6.drewN k)) := fun k => by rw [← HR.out, HE6.out, if_pos hq]; exact ⟨rfl, HT6s.out.fr.drewN k⟩
                clear hq HE6 HT6s HR H0 hrl HCts6b HCss6b HCfs6b
                go_quiet (fail)
                go_wp2_with fail
                refine (hC _).mono ?_
                rintro e w9 ⟨rfl, rfl⟩
                clear hC
                go_wp2
                exact ⟨rfl, HZ.out _⟩
              · have hqi : ¬ (q6 : Int) < (xs.length : Int) := by omega
                have HZ := good_of HR (show rMo xs p = .inr ((⟨ts, ss, fs⟩ : Mo), q6) by rw [HE6.out, if_neg hq])
                have HFIN : Hid (∀ k, Own (putM (W6.drewN k) w.heap.size (.slice ta ts.length tc) (.slice sa ss.length sc) (.slice fa fs.length fc)) w.heap.size #[.slice ta ts.length tc, .slice sa ss.length sc, .slice fa fs.length fc] 26) := fun k => own_putM (HT6s.out.drewN k).o0 _ _ _
                have hZ : Hid (∀ k, R (.returned (.agg #[.slice ta ts.length tc, .slice sa ss.length sc, .slice fa fs.length fc])) (putM (W6.drewN k) w.heap.size (.slice ta ts.length tc) (.slice sa ss.length sc) (.slice fa fs.length fc))) := fun k => HZ.out _ _ ⟨_, _, _, rfl, (HCts6b.out.drewN kTy_good hrl.out k).putM kTy_off (HT6s.out.drewN k).o0 _ _ _, (HCss6b.out.drewN kTxt_good hrl.out k).putM kTxt_off (HT6s.out.drewN k).o0 _ _ _, (HCfs6b.out.drewN kRo_good hrl.out k).putM kRo_off (HT6s.out.drewN k).o0 _ _ _⟩ ((HT6s.out.drewN k).fin3 H0.out _ _ _).1 ((HT6s.out.drewN k).fin3 H0.out _ _ _).2
                have HY : Hid (∀ k, (W6.drewN k).cell? ⟨G1, 0, none⟩ = some (.slice ta ts.length tc) ∧ (W6.drewN k).cell? ⟨G1, 1, none⟩ = some (.slice sa ss.length sc) ∧ (W6.drewN k).cell? ⟨G1, 2, none⟩ = some (.slice fa fs.length fc)) := fun k => by obtain ⟨y0, y1, y2, yf⟩ := (HT6s.out.drewN k).o1.c3z; exact ⟨y0, y1, y2⟩
                have HYf : Hid (∀ k, (∀ j, (W6.drewN k).frozen? ⟨G1, j, none⟩ = false) ∧ (∀ j, (W6.drewN k).frozen? ⟨w.heap.size, j, none⟩ = false)) := fun k => ⟨(HT6s.out.drewN k).o1.froz, (HT6s.out.drewN k).o0.froz⟩
                have HZc : Hid (∀ k, (W6.drewN k).cell? ⟨w.heap.size, 0, none⟩ = some (.slice none 0 0) ∧ (W6.drewN k).cell? ⟨w.heap.size, 1, none⟩ = some (.slice none 0 0) ∧ (W6.drewN k).cell? ⟨w.heap.size, 2, none⟩ = some (.slice none 0 0)) := fun k => by obtain ⟨y0, y1, y2, yf⟩ := (HT6s.out.drewN k).o0.c3z; exact ⟨y0, y1, y2⟩
                clear hq HZ HE6 HT6s HR H0 hrl HCts6b HCss6b HCfs6b
                generalize w.heap.size = G0 at *
                generalize ts.length = Lts at *
                generalize ss.length = Lss at *
                generalize fs.length = Lfs at *
                go_quiet (fail)
                obtain ⟨y0, y1, y2⟩ := HY.out nq
                obtain ⟨yf, zf⟩ := HYf.out nq
                obtain ⟨z0, z1, z2⟩ := HZc.out nq
                have HFI : Hid _ := HFIN.out nq
                have hZI : Hid _ := hZ.out nq
                clear HY HYf HZc HFIN hZ x0 x1 xf
                generalize W6.drewN nq = W9 at *
                go_wp2
                refine bodyPost_cell1 (g := G0) (t := 26) rfl rfl rfl HFI.out Tryz.underlying26 rfl (by kernel_rfl) ?_
                exact hZI.out
end Go.Proofs.YtmmbdpdpkkikjaaGreat
