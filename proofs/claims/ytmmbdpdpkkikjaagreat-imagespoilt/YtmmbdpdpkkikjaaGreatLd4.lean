/-
  several, of each kind. (Written by mksev.py.)
-/
import Derived.Test.YtmmbdpdpkkikjaaGreatJla
namespace Go.Proofs.YtmmbdpdpkkikjaaGreat
open Go.RowKit
set_option linter.unusedVariables false

set_option maxHeartbeats 2000000 in
set_option maxRecDepth 100000 in
theorem sevInt_as {w : World} {r : Nat} {a : Option Addr} {c : Nat} {xs : List Nat} {p : Nat} (h : RdAt w r a c xs p) (n : Nat) (hn : n ≤ 65536)
    (HE : Hid (∀ W q, RdAt W r a c xs q → Calls Tryz.prog 94 #[ptr r] W (RRet r a c xs (vEl kInt) (rNum xs q) W))) :
    Calls Tryz.prog 99 #[.int .i64 (n : Int), .func (.func 94) #[ptr r] #[]] w (RRet r a c xs (vSev kInt) (rSev (rNum xs) n p) w) := by
  obtain ⟨R, HR⟩ : ∃ R, Hid (RRet r a c xs (vSev kInt) (rSev (rNum xs) n p) w = R) := ⟨_, rfl⟩
  rw [HR.out]
  have hrl : Hid (r < w.heap.size) := h.own.lt
  have H0 : Hid (RdAt w r a c xs p) := h
  clear h
  go_enter Tryz.func99, Tryz.ntmps99
  go_wp2_with fail
  go_loopg [5, 7] n (fun g v i wr => ∃ (k : Nat) (ms : List Int) (q : Nat), k + g = n ∧ i = .int .i64 (k : Int) ∧ ms.length = k ∧ SevM kInt w.heap.size wr ms v ∧ RdAt wr r a c xs q ∧ RFr r w wr ∧ SevS (rNum xs) n p (ms.map kInt.sp) g q)
  case atStart => exact ⟨0, [], p, by omega, rfl, rfl, SevM.nil _ _ _, H0.out, Fr.refl _ _, SevS.start _ _ _⟩
  case round =>
    obtain ⟨k, ms, q, hk, rfl, hml, hM, hd, hf, hS⟩ := hrel
    subst hml
    obtain ⟨a2, c2, rfl, -⟩ := hM.row.shape
    cases gk with
    | succ gq =>
      have hki : (ms.length : Int) < (n : Int) := by omega
      have hC := HE.out wr q hd
      cases hq : rNum xs q with
      | inl x =>
        rw [hq] at hC
        have HZ : Hid (∀ w', RFr r wr w' → R (.panicked (fltV (x.1 : Int) (x.2 : Int))) w') := fun w' hf2 => by
          rw [← HR.out, hS.fault hq]; exact ⟨rfl, hf.trans hf2⟩
        clear hM hd hf hS hq HE H0
        go_wp2_with fail
        refine hC.mono ?_
        rintro e w1 ⟨rfl, hf2⟩
        go_wp2
        exact ⟨rfl, HZ.out _ hf2⟩
      | inr y =>
        obtain ⟨m, s⟩ := y
        rw [hq] at hC
        have hN := hS.next hq
        clear hq hS HE
        go_wp2_with fail
        refine hC.mono ?_
        rintro e w1 ⟨⟨v, rfl, m, hm, hv, hok⟩, hd2, hf2⟩
        cases hm
        obtain rfl : v = .int .i64 m := hv
        have hf3 := hf.trans hf2
        have hok1 := kInt_good.mono w1 w.heap.size wr.heap.size m hok hf.size
        have M2 := hM.fr kInt_good hrl.out hf2
        have oE := Own.new w1 #[.int .i64 m] 3
        have fA : RFr r w1 (w1.alloc (.cells #[.int .i64 m] 3)) := (Fr.refl _ _).alloc _
        have M3 := M2.fr kInt_good hrl.out fA
        have ok3 := kInt_good.fr r _ _ _ m hok1 hrl.out fA
        have rowA := M3.row
        have hsz : w.heap.size ≤ (w1.alloc (.cells #[.int .i64 m] 3)).heap.size := (hf3.trans fA).size
        have HA : Hid (∀ (a3 : Option Addr) (c3 : Nat) (wz : World), Rw wz 3 1 (.slice a3 (ms.length + 1) c3) (ms.length + 1) (kInt.rows ms ++ kInt.cf m) → (w1.alloc (.cells #[.int .i64 m] 3)).grownBy wz (Value.slice a2 ms.length c2).ownBlock → ((Value.slice a3 (ms.length + 1) c3).ownBlock = (Value.slice a2 ms.length c2).ownBlock ∨ (Value.slice a3 (ms.length + 1) c3).ownBlock = some (w1.alloc (.cells #[.int .i64 m] 3)).heap.size) → SevM kInt w.heap.size wz (ms ++ [m]) (.slice a3 (ms.length + 1) c3) ∧ RdAt wz r a c xs s ∧ RFr r w wz) := by
          intro a3 c3 wz q1 q2 q3
          have f4 : RFr r w wz := (hf3.trans fA).grown q2 (fun k hk e => by have := M3.new k e; omega)
          have o4 : Own wz r #[.slice a xs.length c, .int .i64 (s : Int)] 69 := (hd2.own.alloc _).grown q2 (fun e => by have := M3.new r e.symm; have := hrl.out; omega)
          exact ⟨M3.app kInt_good hsz ok3 q1 q2 q3, H0.out.to f4 o4 hd2.le, f4⟩
        have HN : Hid (SevS (rNum xs) n p ((ms ++ [m]).map kInt.sp) gq s) := by rw [Hid, List.map_append]; exact hN
        have hnk : ms.length ≤ 10000000 := by omega
        clear hM hd hf hC hN hd2 hf2 hok hok1 hf3 M2 fA M3 ok3 hsz H0
        go_wp2_with (refine wpList_app1 okN (by rfl) (.tmp 9) (.tmp 12) (by rfl) _ ms.length (kInt.rows ms) (by rfl) rowA w1.heap.size [.int .i64 m] (by rfl) oE rfl (by simp [Value.oneCell']) hnk ?_; intro a3 c3 wz q1 q2 q3; have HS := HA.out a3 c3 wz q1 q2 q3; clear q1 q2 q3 HA rowA oE)
        go_roundg gq
        case measure => omega
        case rel => exact ⟨ms.length + 1, ms ++ [m], s, by omega, by go_num, by simp, HS.1, HS.2.1, HS.2.2, HN.out⟩
    | zero =>
      have hki : ¬ (ms.length : Int) < (n : Int) := by omega
      have HZ : Hid (R (.returned (.slice a2 ms.length c2)) wr) := by
        rw [Hid, ← HR.out, hS.done]
        exact ⟨⟨_, rfl, hM.out rfl⟩, hd, hf⟩
      clear hM hd hf hS HE H0
      go_wp2_with fail
      exact HZ.out
set_option maxHeartbeats 2000000 in
set_option maxRecDepth 100000 in
theorem sevTxt_as {w : World} {r : Nat} {a : Option Addr} {c : Nat} {xs : List Nat} {p : Nat} (h : RdAt w r a c xs p) (n : Nat) (hn : n ≤ 65536)
    (HE : Hid (∀ W q, RdAt W r a c xs q → Calls Tryz.prog 62 #[ptr r] W (RRet r a c xs (vEl kTxt) (rText xs q) W))) :
    Calls Tryz.prog 61 #[.int .i64 (n : Int), .func (.func 62) #[ptr r] #[]] w (RRet r a c xs (vSev kTxt) (rSev (rText xs) n p) w) := by
  obtain ⟨R, HR⟩ : ∃ R, Hid (RRet r a c xs (vSev kTxt) (rSev (rText xs) n p) w = R) := ⟨_, rfl⟩
  rw [HR.out]
  have hrl : Hid (r < w.heap.size) := h.own.lt
  have H0 : Hid (RdAt w r a c xs p) := h
  clear h
  go_enter Tryz.func61, Tryz.ntmps61
  go_wp2_with fail
  go_loopg [5, 7] n (fun g v i wr => ∃ (k : Nat) (ms : List ByteArray) (q : Nat), k + g = n ∧ i = .int .i64 (k : Int) ∧ ms.length = k ∧ SevM kTxt w.heap.size wr ms v ∧ RdAt wr r a c xs q ∧ RFr r w wr ∧ SevS (rText xs) n p (ms.map kTxt.sp) g q)
  case atStart => exact ⟨0, [], p, by omega, rfl, rfl, SevM.nil _ _ _, H0.out, Fr.refl _ _, SevS.start _ _ _⟩
  case round =>
    obtain ⟨k, ms, q, hk, rfl, hml, hM, hd, hf, hS⟩ := hrel
    subst hml
    obtain ⟨a2, c2, rfl, -⟩ := hM.row.shape
    cases gk with
    | succ gq =>
      have hki : (ms.length : Int) < (n : Int) := by omega
      have hC := HE.out wr q hd
      cases hq : rText xs q with
      | inl x =>
        rw [hq] at hC
        have HZ : Hid (∀ w', RFr r wr w' → R (.panicked (fltV (x.1 : Int) (x.2 : Int))) w') := fun w' hf2 => by
          rw [← HR.out, hS.fault hq]; exact ⟨rfl, hf.trans hf2⟩
        clear hM hd hf hS hq HE H0
        go_wp2_with fail
        refine hC.mono ?_
        rintro e w1 ⟨rfl, hf2⟩
        go_wp2
        exact ⟨rfl, HZ.out _ hf2⟩
      | inr y =>
        obtain ⟨m, s⟩ := y
        rw [hq] at hC
        have hN := hS.next hq
        clear hq hS HE
        go_wp2_with fail
        refine hC.mono ?_
        rintro e w1 ⟨⟨v, rfl, m, hm, hv, hok⟩, hd2, hf2⟩
        cases hm
        obtain rfl : v = .string m := hv
        have hf3 := hf.trans hf2
        have hok1 := kTxt_good.mono w1 w.heap.size wr.heap.size m hok hf.size
        have M2 := hM.fr kTxt_good hrl.out hf2
        have oE := Own.new w1 #[.string m] 9
        have fA : RFr r w1 (w1.alloc (.cells #[.string m] 9)) := (Fr.refl _ _).alloc _
        have M3 := M2.fr kTxt_good hrl.out fA
        have ok3 := kTxt_good.fr r _ _ _ m hok1 hrl.out fA
        have rowA := M3.row
        have hsz : w.heap.size ≤ (w1.alloc (.cells #[.string m] 9)).heap.size := (hf3.trans fA).size
        have HA : Hid (∀ (a3 : Option Addr) (c3 : Nat) (wz : World), Rw wz 9 1 (.slice a3 (ms.length + 1) c3) (ms.length + 1) (kTxt.rows ms ++ kTxt.cf m) → (w1.alloc (.cells #[.string m] 9)).grownBy wz (Value.slice a2 ms.length c2).ownBlock → ((Value.slice a3 (ms.length + 1) c3).ownBlock = (Value.slice a2 ms.length c2).ownBlock ∨ (Value.slice a3 (ms.length + 1) c3).ownBlock = some (w1.alloc (.cells #[.string m] 9)).heap.size) → SevM kTxt w.heap.size wz (ms ++ [m]) (.slice a3 (ms.length + 1) c3) ∧ RdAt wz r a c xs s ∧ RFr r w wz) := by
          intro a3 c3 wz q1 q2 q3
          have f4 : RFr r w wz := (hf3.trans fA).grown q2 (fun k hk e => by have := M3.new k e; omega)
          have o4 : Own wz r #[.slice a xs.length c, .int .i64 (s : Int)] 69 := (hd2.own.alloc _).grown q2 (fun e => by have := M3.new r e.symm; have := hrl.out; omega)
          exact ⟨M3.app kTxt_good hsz ok3 q1 q2 q3, H0.out.to f4 o4 hd2.le, f4⟩
        have HN : Hid (SevS (rText xs) n p ((ms ++ [m]).map kTxt.sp) gq s) := by rw [Hid, List.map_append]; exact hN
        have hnk : ms.length ≤ 10000000 := by omega
        clear hM hd hf hC hN hd2 hf2 hok hok1 hf3 M2 fA M3 ok3 hsz H0
        go_wp2_with (refine wpList_app1 okS (by rfl) (.tmp 9) (.tmp 12) (by rfl) _ ms.length (kTxt.rows ms) (by rfl) rowA w1.heap.size [.string m] (by rfl) oE rfl (by simp [Value.oneCell']) hnk ?_; intro a3 c3 wz q1 q2 q3; have HS := HA.out a3 c3 wz q1 q2 q3; clear q1 q2 q3 HA rowA oE)
        go_roundg gq
        case measure => omega
        case rel => exact ⟨ms.length + 1, ms ++ [m], s, by omega, by go_num, by simp, HS.1, HS.2.1, HS.2.2, HN.out⟩
    | zero =>
      have hki : ¬ (ms.length : Int) < (n : Int) := by omega
      have HZ : Hid (R (.returned (.slice a2 ms.length c2)) wr) := by
        rw [Hid, ← HR.out, hS.done]
        exact ⟨⟨_, rfl, hM.out rfl⟩, hd, hf⟩
      clear hM hd hf hS HE H0
      go_wp2_with fail
      exact HZ.out
set_option maxHeartbeats 2000000 in
set_option maxRecDepth 100000 in
theorem sevFl_as {w : World} {r : Nat} {a : Option Addr} {c : Nat} {xs : List Nat} {p : Nat} (h : RdAt w r a c xs p) (n : Nat) (hn : n ≤ 65536)
    (HE : Hid (∀ W q, RdAt W r a c xs q → Calls Tryz.prog 97 #[ptr r] W (RRet r a c xs (vEl kFl) (rFl xs q) W))) :
    Calls Tryz.prog 96 #[.int .i64 (n : Int), .func (.func 97) #[ptr r] #[]] w (RRet r a c xs (vSev kFl) (rSev (rFl xs) n p) w) := by
  obtain ⟨R, HR⟩ : ∃ R, Hid (RRet r a c xs (vSev kFl) (rSev (rFl xs) n p) w = R) := ⟨_, rfl⟩
  rw [HR.out]
  have hrl : Hid (r < w.heap.size) := h.own.lt
  have H0 : Hid (RdAt w r a c xs p) := h
  clear h
  go_enter Tryz.func96, Tryz.ntmps96
  go_wp2_with fail
  go_loopg [5, 7] n (fun g v i wr => ∃ (k : Nat) (ms : List Fl) (q : Nat), k + g = n ∧ i = .int .i64 (k : Int) ∧ ms.length = k ∧ SevM kFl w.heap.size wr ms v ∧ RdAt wr r a c xs q ∧ RFr r w wr ∧ SevS (rFl xs) n p (ms.map kFl.sp) g q)
  case atStart => exact ⟨0, [], p, by omega, rfl, rfl, SevM.nil _ _ _, H0.out, Fr.refl _ _, SevS.start _ _ _⟩
  case round =>
    obtain ⟨k, ms, q, hk, rfl, hml, hM, hd, hf, hS⟩ := hrel
    subst hml
    obtain ⟨a2, c2, rfl, -⟩ := hM.row.shape
    cases gk with
    | succ gq =>
      have hki : (ms.length : Int) < (n : Int) := by omega
      have hC := HE.out wr q hd
      cases hq : rFl xs q with
      | inl x =>
        rw [hq] at hC
        have HZ : Hid (∀ w', RFr r wr w' → R (.panicked (fltV (x.1 : Int) (x.2 : Int))) w') := fun w' hf2 => by
          rw [← HR.out, hS.fault hq]; exact ⟨rfl, hf.trans hf2⟩
        clear hM hd hf hS hq HE H0
        go_wp2_with fail
        refine hC.mono ?_
        rintro e w1 ⟨rfl, hf2⟩
        go_wp2
        exact ⟨rfl, HZ.out _ hf2⟩
      | inr y =>
        obtain ⟨m, s⟩ := y
        rw [hq] at hC
        have hN := hS.next hq
        clear hq hS HE
        go_wp2_with fail
        refine hC.mono ?_
        rintro e w1 ⟨⟨v, rfl, m, hm, hv, hok⟩, hd2, hf2⟩
        cases hm
        obtain rfl : v = .agg #[.string m.name, .int .i64 m.typ] := hv
        have hf3 := hf.trans hf2
        have hok1 := kFl_good.mono w1 w.heap.size wr.heap.size m hok hf.size
        have M2 := hM.fr kFl_good hrl.out hf2
        have oE := Own.new w1 #[.string m.name, .int .i64 m.typ] 51
        have fA : RFr r w1 (w1.alloc (.cells #[.string m.name, .int .i64 m.typ] 51)) := (Fr.refl _ _).alloc _
        have M3 := M2.fr kFl_good hrl.out fA
        have ok3 := kFl_good.fr r _ _ _ m hok1 hrl.out fA
        have rowA := M3.row
        have hsz : w.heap.size ≤ (w1.alloc (.cells #[.string m.name, .int .i64 m.typ] 51)).heap.size := (hf3.trans fA).size
        have HA : Hid (∀ (a3 : Option Addr) (c3 : Nat) (wz : World), Rw wz 51 2 (.slice a3 (ms.length + 1) c3) (ms.length + 1) (kFl.rows ms ++ kFl.cf m) → (w1.alloc (.cells #[.string m.name, .int .i64 m.typ] 51)).grownBy wz (Value.slice a2 ms.length c2).ownBlock → ((Value.slice a3 (ms.length + 1) c3).ownBlock = (Value.slice a2 ms.length c2).ownBlock ∨ (Value.slice a3 (ms.length + 1) c3).ownBlock = some (w1.alloc (.cells #[.string m.name, .int .i64 m.typ] 51)).heap.size) → SevM kFl w.heap.size wz (ms ++ [m]) (.slice a3 (ms.length + 1) c3) ∧ RdAt wz r a c xs s ∧ RFr r w wz) := by
          intro a3 c3 wz q1 q2 q3
          have f4 : RFr r w wz := (hf3.trans fA).grown q2 (fun k hk e => by have := M3.new k e; omega)
          have o4 : Own wz r #[.slice a xs.length c, .int .i64 (s : Int)] 69 := (hd2.own.alloc _).grown q2 (fun e => by have := M3.new r e.symm; have := hrl.out; omega)
          exact ⟨M3.app kFl_good hsz ok3 q1 q2 q3, H0.out.to f4 o4 hd2.le, f4⟩
        have HN : Hid (SevS (rFl xs) n p ((ms ++ [m]).map kFl.sp) gq s) := by rw [Hid, List.map_append]; exact hN
        have hnk : ms.length ≤ 10000000 := by omega
        clear hM hd hf hC hN hd2 hf2 hok hok1 hf3 M2 fA M3 ok3 hsz H0
        go_wp2_with (refine wpList_app1 okF (by rfl) (.tmp 9) (.tmp 12) (by rfl) _ ms.length (kFl.rows ms) (by rfl) rowA w1.heap.size [.string m.name, .int .i64 m.typ] (by rfl) oE rfl (by simp [Value.oneCell']) hnk ?_; intro a3 c3 wz q1 q2 q3; have HS := HA.out a3 c3 wz q1 q2 q3; clear q1 q2 q3 HA rowA oE)
        go_roundg gq
        case measure => omega
        case rel => exact ⟨ms.length + 1, ms ++ [m], s, by omega, by go_num, by simp, HS.1, HS.2.1, HS.2.2, HN.out⟩
    | zero =>
      have hki : ¬ (ms.length : Int) < (n : Int) := by omega
      have HZ : Hid (R (.returned (.slice a2 ms.length c2)) wr) := by
        rw [Hid, ← HR.out, hS.done]
        exact ⟨⟨_, rfl, hM.out rfl⟩, hd, hf⟩
      clear hM hd hf hS HE H0
      go_wp2_with fail
      exact HZ.out
set_option maxHeartbeats 2000000 in
set_option maxRecDepth 100000 in
theorem sevTy_as {w : World} {r : Nat} {a : Option Addr} {c : Nat} {xs : List Nat} {p : Nat} (h : RdAt w r a c xs p) (n : Nat) (hn : n ≤ 65536)
    (HE : Hid (∀ W q, RdAt W r a c xs q → Calls Tryz.prog 60 #[ptr r] W (RRet r a c xs (vEl kTy) (rTy xs q) W))) :
    Calls Tryz.prog 58 #[.int .i64 (n : Int), .func (.func 60) #[ptr r] #[]] w (RRet r a c xs (vSev kTy) (rSev (rTy xs) n p) w) := by
  obtain ⟨R, HR⟩ : ∃ R, Hid (RRet r a c xs (vSev kTy) (rSev (rTy xs) n p) w = R) := ⟨_, rfl⟩
  rw [HR.out]
  have hrl : Hid (r < w.heap.size) := h.own.lt
  have H0 : Hid (RdAt w r a c xs p) := h
  clear h
  go_enter Tryz.func58, Tryz.ntmps58
  go_wp2_with fail
  go_loopg [5, 7] n (fun g v i wr => ∃ (k : Nat) (ms : List TyP) (q : Nat), k + g = n ∧ i = .int .i64 (k : Int) ∧ ms.length = k ∧ SevM kTy w.heap.size wr ms v ∧ RdAt wr r a c xs q ∧ RFr r w wr ∧ SevS (rTy xs) n p (ms.map kTy.sp) g q)
  case atStart => exact ⟨0, [], p, by omega, rfl, rfl, SevM.nil _ _ _, H0.out, Fr.refl _ _, SevS.start _ _ _⟩
  case round =>
    obtain ⟨k, ms, q, hk, rfl, hml, hM, hd, hf, hS⟩ := hrel
    subst hml
    obtain ⟨a2, c2, rfl, -⟩ := hM.row.shape
    cases gk with
    | succ gq =>
      have hki : (ms.length : Int) < (n : Int) := by omega
      have hC := HE.out wr q hd
      cases hq : rTy xs q with
      | inl x =>
        rw [hq] at hC
        have HZ : Hid (∀ w', RFr r wr w' → R (.panicked (fltV (x.1 : Int) (x.2 : Int))) w') := fun w' hf2 => by
          rw [← HR.out, hS.fault hq]; exact ⟨rfl, hf.trans hf2⟩
        clear hM hd hf hS hq HE H0
        go_wp2_with fail
        refine hC.mono ?_
        rintro e w1 ⟨rfl, hf2⟩
        go_wp2
        exact ⟨rfl, HZ.out _ hf2⟩
      | inr y =>
        obtain ⟨m, s⟩ := y
        rw [hq] at hC
        have hN := hS.next hq
        clear hq hS HE
        go_wp2_with fail
        refine hC.mono ?_
        rintro e w1 ⟨⟨v, rfl, m, hm, hv, hok⟩, hd2, hf2⟩
        cases hm
        obtain rfl : v = .agg #[.int .u8 (m.t.kind : Int), .string m.t.name, .slice m.fa m.t.fields.length m.fc, .int .i64 m.t.elem, .int .i64 m.t.len] := hv
        have hf3 := hf.trans hf2
        have hok1 := kTy_good.mono w1 w.heap.size wr.heap.size m hok hf.size
        have M2 := hM.fr kTy_good hrl.out hf2
        have oE := Own.new w1 #[.int .u8 (m.t.kind : Int), .string m.t.name, .slice m.fa m.t.fields.length m.fc, .int .i64 m.t.elem, .int .i64 m.t.len] 49
        have fA : RFr r w1 (w1.alloc (.cells #[.int .u8 (m.t.kind : Int), .string m.t.name, .slice m.fa m.t.fields.length m.fc, .int .i64 m.t.elem, .int .i64 m.t.len] 49)) := (Fr.refl _ _).alloc _
        have M3 := M2.fr kTy_good hrl.out fA
        have ok3 := kTy_good.fr r _ _ _ m hok1 hrl.out fA
        have rowA := M3.row
        have hsz : w.heap.size ≤ (w1.alloc (.cells #[.int .u8 (m.t.kind : Int), .string m.t.name, .slice m.fa m.t.fields.length m.fc, .int .i64 m.t.elem, .int .i64 m.t.len] 49)).heap.size := (hf3.trans fA).size
        have HA : Hid (∀ (a3 : Option Addr) (c3 : Nat) (wz : World), Rw wz 49 5 (.slice a3 (ms.length + 1) c3) (ms.length + 1) (kTy.rows ms ++ kTy.cf m) → (w1.alloc (.cells #[.int .u8 (m.t.kind : Int), .string m.t.name, .slice m.fa m.t.fields.length m.fc, .int .i64 m.t.elem, .int .i64 m.t.len] 49)).grownBy wz (Value.slice a2 ms.length c2).ownBlock → ((Value.slice a3 (ms.length + 1) c3).ownBlock = (Value.slice a2 ms.length c2).ownBlock ∨ (Value.slice a3 (ms.length + 1) c3).ownBlock = some (w1.alloc (.cells #[.int .u8 (m.t.kind : Int), .string m.t.name, .slice m.fa m.t.fields.length m.fc, .int .i64 m.t.elem, .int .i64 m.t.len] 49)).heap.size) → SevM kTy w.heap.size wz (ms ++ [m]) (.slice a3 (ms.length + 1) c3) ∧ RdAt wz r a c xs s ∧ RFr r w wz) := by
          intro a3 c3 wz q1 q2 q3
          have f4 : RFr r w wz := (hf3.trans fA).grown q2 (fun k hk e => by have := M3.new k e; omega)
          have o4 : Own wz r #[.slice a xs.length c, .int .i64 (s : Int)] 69 := (hd2.own.alloc _).grown q2 (fun e => by have := M3.new r e.symm; have := hrl.out; omega)
          exact ⟨M3.app kTy_good hsz ok3 q1 q2 q3, H0.out.to f4 o4 hd2.le, f4⟩
        have HN : Hid (SevS (rTy xs) n p ((ms ++ [m]).map kTy.sp) gq s) := by rw [Hid, List.map_append]; exact hN
        have hnk : ms.length ≤ 10000000 := by omega
        clear hM hd hf hC hN hd2 hf2 hok hok1 hf3 M2 fA M3 ok3 hsz H0
        go_wp2_with (refine wpList_app1 okT (by rfl) (.tmp 9) (.tmp 12) (by rfl) _ ms.length (kTy.rows ms) (by rfl) rowA w1.heap.size [.int .u8 (m.t.kind : Int), .string m.t.name, .slice m.fa m.t.fields.length m.fc, .int .i64 m.t.elem, .int .i64 m.t.len] (by rfl) oE rfl (by simp [Value.oneCell']) hnk ?_; intro a3 c3 wz q1 q2 q3; have HS := HA.out a3 c3 wz q1 q2 q3; clear q1 q2 q3 HA rowA oE)
        go_roundg gq
        case measure => omega
        case rel => exact ⟨ms.length + 1, ms ++ [m], s, by omega, by go_num, by simp, HS.1, HS.2.1, HS.2.2, HN.out⟩
    | zero =>
      have hki : ¬ (ms.length : Int) < (n : Int) := by omega
      have HZ : Hid (R (.returned (.slice a2 ms.length c2)) wr) := by
        rw [Hid, ← HR.out, hS.done]
        exact ⟨⟨_, rfl, hM.out rfl⟩, hd, hf⟩
      clear hM hd hf hS HE H0
      go_wp2_with fail
      exact HZ.out
set_option maxHeartbeats 2000000 in
set_option maxRecDepth 100000 in
theorem sevRo_as {w : World} {r : Nat} {a : Option Addr} {c : Nat} {xs : List Nat} {p : Nat} (h : RdAt w r a c xs p) (n : Nat) (hn : n ≤ 65536)
    (HE : Hid (∀ W q, RdAt W r a c xs q → Calls Tryz.prog 64 #[ptr r] W (RRet r a c xs (vEl kRo) (rRo xs q) W))) :
    Calls Tryz.prog 63 #[.int .i64 (n : Int), .func (.func 64) #[ptr r] #[]] w (RRet r a c xs (vSev kRo) (rSev (rRo xs) n p) w) := by
  obtain ⟨R, HR⟩ : ∃ R, Hid (RRet r a c xs (vSev kRo) (rSev (rRo xs) n p) w = R) := ⟨_, rfl⟩
  rw [HR.out]
  have hrl : Hid (r < w.heap.size) := h.own.lt
  have H0 : Hid (RdAt w r a c xs p) := h
  clear h
  go_enter Tryz.func63, Tryz.ntmps63
  go_wp2_with fail
  go_loopg [5, 7] n (fun g v i wr => ∃ (k : Nat) (ms : List RoP) (q : Nat), k + g = n ∧ i = .int .i64 (k : Int) ∧ ms.length = k ∧ SevM kRo w.heap.size wr ms v ∧ RdAt wr r a c xs q ∧ RFr r w wr ∧ SevS (rRo xs) n p (ms.map kRo.sp) g q)
  case atStart => exact ⟨0, [], p, by omega, rfl, rfl, SevM.nil _ _ _, H0.out, Fr.refl _ _, SevS.start _ _ _⟩
  case round =>
    obtain ⟨k, ms, q, hk, rfl, hml, hM, hd, hf, hS⟩ := hrel
    subst hml
    obtain ⟨a2, c2, rfl, -⟩ := hM.row.shape
    cases gk with
    | succ gq =>
      have hki : (ms.length : Int) < (n : Int) := by omega
      have hC := HE.out wr q hd
      cases hq : rRo xs q with
      | inl x =>
        rw [hq] at hC
        have HZ : Hid (∀ w', RFr r wr w' → R (.panicked (fltV (x.1 : Int) (x.2 : Int))) w') := fun w' hf2 => by
          rw [← HR.out, hS.fault hq]; exact ⟨rfl, hf.trans hf2⟩
        clear hM hd hf hS hq HE H0
        go_wp2_with fail
        refine hC.mono ?_
        rintro e w1 ⟨rfl, hf2⟩
        go_wp2
        exact ⟨rfl, HZ.out _ hf2⟩
      | inr y =>
        obtain ⟨m, s⟩ := y
        rw [hq] at hC
        have hN := hS.next hq
        clear hq hS HE
        go_wp2_with fail
        refine hC.mono ?_
        rintro e w1 ⟨⟨v, rfl, m, hm, hv, hok⟩, hd2, hf2⟩
        cases hm
        obtain rfl : v = .agg #[.string m.r.name, .slice m.pa m.r.params.length m.pc, .slice m.ra m.r.results.length m.rc, .int .i64 m.r.locals, .int .i64 m.r.stack, .slice m.ca m.r.code.length m.cc] := hv
        have hf3 := hf.trans hf2
        have hok1 := kRo_good.mono w1 w.heap.size wr.heap.size m hok hf.size
        have M2 := hM.fr kRo_good hrl.out hf2
        have oE := Own.new w1 #[.string m.r.name, .slice m.pa m.r.params.length m.pc, .slice m.ra m.r.results.length m.rc, .int .i64 m.r.locals, .int .i64 m.r.stack, .slice m.ca m.r.code.length m.cc] 55
        have fA : RFr r w1 (w1.alloc (.cells #[.string m.r.name, .slice m.pa m.r.params.length m.pc, .slice m.ra m.r.results.length m.rc, .int .i64 m.r.locals, .int .i64 m.r.stack, .slice m.ca m.r.code.length m.cc] 55)) := (Fr.refl _ _).alloc _
        have M3 := M2.fr kRo_good hrl.out fA
        have ok3 := kRo_good.fr r _ _ _ m hok1 hrl.out fA
        have rowA := M3.row
        have hsz : w.heap.size ≤ (w1.alloc (.cells #[.string m.r.name, .slice m.pa m.r.params.length m.pc, .slice m.ra m.r.results.length m.rc, .int .i64 m.r.locals, .int .i64 m.r.stack, .slice m.ca m.r.code.length m.cc] 55)).heap.size := (hf3.trans fA).size
        have HA : Hid (∀ (a3 : Option Addr) (c3 : Nat) (wz : World), Rw wz 55 6 (.slice a3 (ms.length + 1) c3) (ms.length + 1) (kRo.rows ms ++ kRo.cf m) → (w1.alloc (.cells #[.string m.r.name, .slice m.pa m.r.params.length m.pc, .slice m.ra m.r.results.length m.rc, .int .i64 m.r.locals, .int .i64 m.r.stack, .slice m.ca m.r.code.length m.cc] 55)).grownBy wz (Value.slice a2 ms.length c2).ownBlock → ((Value.slice a3 (ms.length + 1) c3).ownBlock = (Value.slice a2 ms.length c2).ownBlock ∨ (Value.slice a3 (ms.length + 1) c3).ownBlock = some (w1.alloc (.cells #[.string m.r.name, .slice m.pa m.r.params.length m.pc, .slice m.ra m.r.results.length m.rc, .int .i64 m.r.locals, .int .i64 m.r.stack, .slice m.ca m.r.code.length m.cc] 55)).heap.size) → SevM kRo w.heap.size wz (ms ++ [m]) (.slice a3 (ms.length + 1) c3) ∧ RdAt wz r a c xs s ∧ RFr r w wz) := by
          intro a3 c3 wz q1 q2 q3
          have f4 : RFr r w wz := (hf3.trans fA).grown q2 (fun k hk e => by have := M3.new k e; omega)
          have o4 : Own wz r #[.slice a xs.length c, .int .i64 (s : Int)] 69 := (hd2.own.alloc _).grown q2 (fun e => by have := M3.new r e.symm; have := hrl.out; omega)
          exact ⟨M3.app kRo_good hsz ok3 q1 q2 q3, H0.out.to f4 o4 hd2.le, f4⟩
        have HN : Hid (SevS (rRo xs) n p ((ms ++ [m]).map kRo.sp) gq s) := by rw [Hid, List.map_append]; exact hN
        have hnk : ms.length ≤ 10000000 := by omega
        clear hM hd hf hC hN hd2 hf2 hok hok1 hf3 M2 fA M3 ok3 hsz H0
        go_wp2_with (refine wpList_app1 okR (by rfl) (.tmp 9) (.tmp 12) (by rfl) _ ms.length (kRo.rows ms) (by rfl) rowA w1.heap.size [.string m.r.name, .slice m.pa m.r.params.length m.pc, .slice m.ra m.r.results.length m.rc, .int .i64 m.r.locals, .int .i64 m.r.stack, .slice m.ca m.r.code.length m.cc] (by rfl) oE rfl (by simp [Value.oneCell']) hnk ?_; intro a3 c3 wz q1 q2 q3; have HS := HA.out a3 c3 wz q1 q2 q3; clear q1 q2 q3 HA rowA oE)
        go_roundg gq
        case measure => omega
        case rel => exact ⟨ms.length + 1, ms ++ [m], s, by omega, by go_num, by simp, HS.1, HS.2.1, HS.2.2, HN.out⟩
    | zero =>
      have hki : ¬ (ms.length : Int) < (n : Int) := by omega
      have HZ : Hid (R (.returned (.slice a2 ms.length c2)) wr) := by
        rw [Hid, ← HR.out, hS.done]
        exact ⟨⟨_, rfl, hM.out rfl⟩, hd, hf⟩
      clear hM hd hf hS HE H0
      go_wp2_with fail
      exact HZ.out
end Go.Proofs.YtmmbdpdpkkikjaaGreat
