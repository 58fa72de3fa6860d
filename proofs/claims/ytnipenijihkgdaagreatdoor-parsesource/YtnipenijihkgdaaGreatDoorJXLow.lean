import Derived.Test.YtnipenijihkgdaaGreatDoorNd
import Derived.Test.YtnipenijihkgdaaGreatDoorJLow
import Derived.Below
import Derived.Laws.BytesArg
import Derived.Test.YtnipenijihkgdaaGreatDoorShelf
import Derived.Lib.ConvBytes
import Derived.Lib.ParseIntBMem
import Derived.Lib.Hide
import Derived.Laws.Strings3
import Derived.Laws.Closers25
import Derived.Laws.Closers25b
import Derived.BigCall
import Derived.BigGuard
set_option maxHeartbeats 4000000
set_option maxRecDepth 100000
namespace Go.Proofs.YtnipenijihkgdaaGreatDoor
open Go.RowKit
set_option linter.unusedVariables false
theorem gY0 {x y:ByteArray} (h:x = y):Ending.returned (.string x) = Ending.returned (.string y):=by rw [h]
def jJ0 (c:Nat):Bool:=decide (97≤c∧c≤102) || decide (65≤c∧c≤70)
def kG (k c:Nat):Bool:=match k with | 0=>fO c | 1=>bO c | 2=>aY c | 3=>jJ0 c | 4=>bM c | _=>false
theorem aE1 (c:Nat) (w:World):Calls Tryz.prog 148 #[.int .u8 0,.int .u8 (c:Int)] w fun e w'=>e = .returned (.bool (fO c))∧w = w':=by
 go_enter Tryz.func148,Tryz.ntmps148
 go_wp2
 all_goals (go_ret; refine ⟨aW ?_,rfl⟩; rw [Bool.eq_iff_iff]; simp [fO]; omega)
theorem aZ1 (c:Nat) (w:World):Calls Tryz.prog 148 #[.int .u8 1,.int .u8 (c:Int)] w fun e w'=>e = .returned (.bool (bO c))∧w = w':=by
 go_enter Tryz.func148,Tryz.ntmps148
 go_wp2
 all_goals (go_ret; refine ⟨aW ?_,rfl⟩; rw [Bool.eq_iff_iff]; simp [bO]; omega)
theorem aO1 (c:Nat) (w:World):Calls Tryz.prog 148 #[.int .u8 2,.int .u8 (c:Int)] w fun e w'=>e = .returned (.bool (aY c))∧w = w':=by
 go_enter Tryz.func148,Tryz.ntmps148
 go_wp2
 all_goals (go_ret; refine ⟨aW ?_,rfl⟩; rw [Bool.eq_iff_iff]; simp [aY]; omega)
theorem aH1 (c:Nat) (w:World):Calls Tryz.prog 148 #[.int .u8 3,.int .u8 (c:Int)] w fun e w'=>e = .returned (.bool (jJ0 c))∧w = w':=by
 go_enter Tryz.func148,Tryz.ntmps148
 go_wp2
 all_goals (go_ret; refine ⟨aW ?_,rfl⟩; rw [Bool.eq_iff_iff]; simp [jJ0]; omega)
theorem aI1 (c:Nat) (w:World):Calls Tryz.prog 148 #[.int .u8 4,.int .u8 (c:Int)] w fun e w'=>e = .returned (.bool (bM c))∧w = w':=by
 go_enter Tryz.func148,Tryz.ntmps148
 go_wp2
 all_goals (go_ret; refine ⟨aW ?_,rfl⟩; rw [Bool.eq_iff_iff]; simp [bM]; omega)
theorem dR0 (k c:Nat) (hk:k < 5) (w:World):Calls Tryz.prog 148 #[.int .u8 (k:Int),.int .u8 (c:Int)] w fun e w'=>e = .returned (.bool (kG k c))∧w = w':=by
 match k,hk with
 | 0,_=>exact aE1 c w
 | 1,_=>exact aZ1 c w
 | 2,_=>exact aO1 c w
 | 3,_=>exact aH1 c w
 | 4,_=>exact aI1 c w
def isB (ks:List Nat) (c:Nat):Bool:=ks.any fun k=>kG k c
theorem xI0 (ks:List Nat) (c i:Nat) (h:i < ks.length) (hi:kG (ks.getD i 0) c = true):isB ks c = true:=by
 unfold isB
 rw [List.any_eq_true]
 refine ⟨ks[i],List.getElem_mem h,?_⟩
 rwa [List.getD_eq_getElem?_getD,List.getElem?_eq_getElem h] at hi
theorem zP0 (ks:List Nat) (c:Nat) (h:∀ i,i < ks.length→kG (ks.getD i 0) c = false):isB ks c = false:=by
 unfold isB
 rw [List.any_eq_false]
 intro k hk
 obtain ⟨i,hi,rfl⟩:=List.getElem_of_mem hk
 have:=h i hi
 rw [List.getD_eq_getElem?_getD,List.getElem?_eq_getElem hi] at this
 simp only [Option.getD_some] at this
 rw [this]; decide
def aU1 (ks:List Nat) (n c:Nat) (i:Value):Prop:=∃ k:Nat,k≤n∧i = .int .i64 k∧∀ j,j < k→kG (ks.getD j 0) c = false
def qA (w:World) (g:Nat) (ks:List Nat):Prop:=(∀ i,i < ks.length→w.cell? ⟨g,i,none⟩ = some (.int .u8 ((ks.getD i 0:Nat):Int)))∧∀ k ∈ ks,k < 5
theorem eW (ks:List Nat) (g n c:Nat) (w:World) (hn:ks.length = n) (hn2:n≤5) (b:Bool) (hb:isB ks c = b) (hK:qA w g ks) :
    Calls Tryz.prog 127 #[.int .u8 (c:Int),.slice (some ⟨g,0,none⟩) n n] w fun e w'=>e = .returned (.bool b)∧w = w':=by
 have HB:=hI hb
 have HN:=hI hn
 have HK:=hI hK
 clear hb hK hn
 go_enter Tryz.func127,Tryz.ntmps127
 go_wp2_with fail
 go_loop [9] (fun i=>aU1 ks n c i) (fun i=>n - (intOf i).toNat)
 case atStart=>exact ⟨0,by omega,rfl,fun j hj=>by omega⟩
 case round =>
  obtain ⟨k,hk,rfl,hno⟩:=hrel
  have HNO:=hI hno
  clear hno
  by_cases hlt:k < n
  · obtain ⟨x,hx⟩:∃ x,Hid (ks.getD k 0 = x):=⟨_,rfl⟩
    have hl:k < ks.length:=by rw [HN.out]; exact hlt
    have hcell:w.cell? ⟨g,k,none⟩ = some (.int .u8 (x:Int)):=by rw [← hx.out]; exact HK.out.1 k hl
    have hx5:x < 5:=by
     rw [← hx.out,List.getD_eq_getElem?_getD,List.getElem?_eq_getElem hl]
     exact HK.out.2 _ (List.getElem_mem hl)
    by_cases hh:kG x c = true
    · have HH:Hid (kG x c = true):=hh
      have HT:Hid (true = b):=by unfold Hid; rw [← HB.out]; exact (xI0 ks c k hl (by rw [hx.out]; exact hh)).symm
      clear hh
      go_wp2_with fail
      refine (dR0 x c hx5 _).mono ?_
      rw [HH.out]
      rintro e wx ⟨rfl,rfl⟩
      go_wp2
      go_ret
      exact ⟨aW HT.out,rfl⟩
    have HH:Hid (kG x c = false):=by simpa [Hid] using hh
    have HNO2:Hid (∀ j,j < k + 1→kG (ks.getD j 0) c = false):=by
     intro j hj
     by_cases hjk:j = k
     · subst hjk; rw [hx.out]; exact HH.out
     exact HNO.out j (by omega)
    clear hh
    go_wp2_with fail
    refine (dR0 x c hx5 _).mono ?_
    rw [HH.out]
    rintro e wx ⟨rfl,rfl⟩
    go_wp2
    go_round
    case rel=>exact ⟨k + 1,by omega,by go_num,HNO2.out⟩
    case measure=>simp [intOf]; omega
  have hkn:k = n:=by omega
  have HF:Hid (false = b):=by unfold Hid; rw [← HB.out]; exact (zP0 ks c (by rw [HN.out,← hkn]; exact HNO.out)).symm
  subst hkn
  go_wp2
  go_ret
  exact ⟨aW HF.out,rfl⟩
def mX (q:Nat→Bool) (l:List Nat):Nat:=(l.takeWhile q).length
theorem lE (q:Nat→Bool) (c:Nat) (r:List Nat) (h:q c = true):mX q (c :: r) = 1 + mX q r:=by unfold mX; rw [List.takeWhile_cons,if_pos h,List.length_cons]; omega
theorem lY (q:Nat→Bool) (c:Nat) (r:List Nat) (h:q c = false):mX q (c :: r) = 0:=by unfold mX; rw [List.takeWhile_cons,if_neg (by simp [h])]; rfl
def xC0 (s:ByteArray) (q:Nat→Bool) (E:Nat) (i:Value):Prop:=∃ k:Nat,k≤s.size∧i = .int .i64 k∧k + mX q ((aD s).drop k) = E
theorem gY (s:ByteArray) (y:Int) (p E:Nat) (ks:List Nat) (g n:Nat) (w:World) (hy:y = p) (hp:p≤s.size) (h:s.size≤1048576) (hn:ks.length = n) (hn2:n≤5) (hE:p + mX (isB ks) ((aD s).drop p) = E) (hK:qA w g ks) :
    Calls Tryz.prog 128 #[.string s,.int .i64 y,.slice (some ⟨g,0,none⟩) n n] w fun e w'=>e = .returned (.int .i64 (E:Int))∧w = w':=by
 subst hy
 have HN:=hI hn
 have HK:=hI hK
 clear hn hK
 go_enter Tryz.func128,Tryz.ntmps128
 go_wp2
 go_loop [1] (fun i=>xC0 s (isB ks) E i) (fun i=>s.size - (intOf i).toNat)
 case atStart=>exact ⟨p,hp,rfl,hE⟩
 case round =>
  obtain ⟨k,hk,rfl,hkE⟩:=hrel
  have HE:=hI hkE
  clear hkE hE
  by_cases hlt:k < s.size
  · have hdrop:=bY s k hlt
    obtain ⟨c,hc⟩:=iQ ((s[k]'hlt).toNat)
    rw [hc] at hdrop
    have HD:=hI hdrop
    clear hdrop
    by_cases hl:isB ks c = true
    · have HL:Hid (isB ks c = true):=hl
      clear hl
      go_wp2_with fail
      refine (eW ks g n c _ HN.out hn2 true HL.out HK.out).mono ?_
      rintro e wx ⟨rfl,rfl⟩
      go_wp2
      go_round
      case rel=>exact ⟨k + 1,by omega,by go_num,by rw [← HE.out,HD.out,lE _ c _ HL.out]; omega⟩
      case measure=>simp [intOf]; omega
    have HL:Hid (isB ks c = false):=by simpa [Hid] using hl
    clear hl
    go_wp2_with fail
    refine (eW ks g n c _ HN.out hn2 false HL.out HK.out).mono ?_
    rintro e wx ⟨rfl,rfl⟩
    go_wp2
    go_ret
    exact ⟨fK (by rw [← HE.out,HD.out,lY _ c _ HL.out]; omega),rfl⟩
  have hks:k = s.size:=by omega
  have HF:Hid (k = E):=by unfold Hid; rw [← HE.out,hks,hH]; rfl
  clear HE
  subst hks
  go_wp2
  go_ret
  exact ⟨fK (by rw [HF.out]),rfl⟩
theorem pK (s x:ByteArray) (h:s.size≤1048576) (hx:x.size≤1048576) (w:World) :
    Calls Tryz.prog 130 #[.string s,.string x] w fun e w'=>e = .returned (.bool (dG (aD s) (aD x)))∧w = w':=by
 by_cases hle:x.size≤s.size
 · go_enter Tryz.func130,Tryz.ntmps130
   go_wp2
   go_ret
   refine ⟨aW ?_,rfl⟩
   rw [mH,eM,dG,aK,List.drop_zero,Nat.sub_zero]
 have hf:dG (aD s) (aD x) = false:=by
  unfold dG
  simp only [decide_eq_false_iff_not]
  intro q
  have:=congrArg List.length q
  rw [List.length_take,aK,aK] at this
  omega
 rw [hf]
 clear hf
 go_enter Tryz.func130,Tryz.ntmps130
 go_wp2
 go_ret
 exact ⟨rfl,rfl⟩
def fF (l:List Nat) (ws:List ByteArray):ByteArray:=(ws.find? fun x=>dG l (aD x)).getD ⟨#[]⟩
theorem lJ0 (l:List Nat) (ws:List ByteArray) (i:Nat) (h:i < ws.length) (hb:∀ j,j < i→dG l (aD (ws.getD j ⟨#[]⟩)) = false) (hi:dG l (aD (ws.getD i ⟨#[]⟩)) = true):fF l ws = ws.getD i ⟨#[]⟩:=by
 unfold fF
 have e:ws.find? (fun x=>dG l (aD x)) = some ws[i]:=by
  rw [List.find?_eq_some_iff_getElem]
  rw [List.getD_eq_getElem?_getD,List.getElem?_eq_getElem h] at hi
  refine ⟨hi,i,h,rfl,?_⟩
  intro j hj
  have:=hb j hj
  rw [List.getD_eq_getElem?_getD,List.getElem?_eq_getElem (by omega)] at this
  simpa using this
 rw [e,List.getD_eq_getElem?_getD,List.getElem?_eq_getElem h]
theorem cQ0 (l:List Nat) (ws:List ByteArray) (hb:∀ j,j < ws.length→dG l (aD (ws.getD j ⟨#[]⟩)) = false):fF l ws = ⟨#[]⟩:=by
 unfold fF
 have e:ws.find? (fun x=>dG l (aD x)) = none:=by
  rw [List.find?_eq_none]
  intro x hx
  obtain ⟨j,hj,rfl⟩:=List.getElem_of_mem hx
  have:=hb j hj
  rw [List.getD_eq_getElem?_getD,List.getElem?_eq_getElem hj] at this
  simp only [Option.getD_some] at this
  rw [this]; decide
 rw [e]; rfl
def uC0 (l:List Nat) (ws:List ByteArray) (n:Nat) (i:Value):Prop:=∃ k:Nat,k≤n∧i = .int .i64 k∧∀ j,j < k→dG l (aD (ws.getD j ⟨#[]⟩)) = false
theorem lD (s:ByteArray) (h:s.size≤1048576) (ws:List ByteArray) (g n:Nat) (w:World) (hn:ws.length = n) (hn2:n≤100) (hws:∀ j,(ws.getD j ⟨#[]⟩).size≤10) (X:ByteArray) (hX:fF (aD s) ws = X)
    (hK:∀ i,i < n→w.cell? ⟨g,i,none⟩ = some (.string (ws.getD i ⟨#[]⟩))) :
    Calls Tryz.prog 135 #[.string s,.slice (some ⟨g,0,none⟩) n n] w fun e w'=>e = .returned (.string X)∧w = w':=by
 have HX:=hI hX
 have HN:=hI hn
 have HK:=hI hK
 have HW:=hI hws
 clear hX hK hn hws
 go_enter Tryz.func135,Tryz.ntmps135
 go_wp2_with fail
 go_loop [9] (fun i=>uC0 (aD s) ws n i) (fun i=>n - (intOf i).toNat)
 case atStart=>exact ⟨0,by omega,rfl,fun j hj=>by omega⟩
 case round =>
  obtain ⟨k,hk,rfl,hno⟩:=hrel
  have HNO:=hI hno
  clear hno
  by_cases hlt:k < n
  · obtain ⟨x,hx⟩:∃ x,Hid (ws.getD k ⟨#[]⟩ = x):=⟨_,rfl⟩
    have hcell:w.cell? ⟨g,k,none⟩ = some (.string x):=by rw [← hx.out]; exact HK.out k hlt
    have hxs:x.size≤10:=by rw [← hx.out]; exact HW.out k
    by_cases hh:dG (aD s) (aD x) = true
    · have HH:Hid (dG (aD s) (aD x) = true):=hh
      have HT:Hid (x = X):=by unfold Hid; rw [← HX.out,lJ0 _ ws k (by rw [HN.out]; exact hlt) HNO.out (by rw [hx.out]; exact hh),hx.out]
      clear hh
      go_wp2_with fail
      refine (pK s x h (by omega) _).mono ?_
      rw [HH.out]
      rintro e wx ⟨rfl,rfl⟩
      go_wp2
      go_ret
      exact ⟨gY0 HT.out,rfl⟩
    have HH:Hid (dG (aD s) (aD x) = false):=by simpa [Hid] using hh
    have HNO2:Hid (∀ j,j < k + 1→dG (aD s) (aD (ws.getD j ⟨#[]⟩)) = false):=by
     intro j hj
     by_cases hjk:j = k
     · subst hjk; rw [hx.out]; exact HH.out
     exact HNO.out j (by omega)
    clear hh
    go_wp2_with fail
    refine (pK s x h (by omega) _).mono ?_
    rw [HH.out]
    rintro e wx ⟨rfl,rfl⟩
    go_wp2
    go_round
    case rel=>exact ⟨k + 1,by omega,by go_num,HNO2.out⟩
    case measure=>simp [intOf]; omega
  have hkn:k = n:=by omega
  have HF:Hid (⟨#[]⟩ = X):=by unfold Hid; rw [← HX.out]; exact (cQ0 _ ws (by rw [HN.out,← hkn]; exact HNO.out)).symm
  subst hkn
  go_wp2
  go_ret
  exact ⟨gY0 HF.out,rfl⟩
def jM (w:World):Prop:=2 < w.heap.size∧∃ te pe,w.cell? ⟨2,0,none⟩ = some (.iface te pe)
theorem jM.below {w w':World} {B:Nat} (h:jM w) (hb:Below B w w') (hB:2 < B):jM w':=by
 obtain ⟨h1,te,pe,h2⟩:=h
 exact ⟨Nat.lt_of_lt_of_le h1 hb.size,te,pe,by rw [hb.cell (p:=⟨2,0,none⟩) hB]; exact h2⟩
theorem jM.on {w w':World} (h:jM w) (hb:Below w.heap.size w w'):jM w':=h.below hb h.1
theorem cL {B:Nat} {w w1 w2:World} (h1:Below B w w1) (h2:Below w1.heap.size w1 w2) (hB:B≤w.heap.size):Below B w w2 :=
 h1.trans (h2.mono (Nat.le_trans hB h1.size))
theorem gG0 (s:ByteArray) (h:s.size≤1048576) (w:World) :
    Calls Tryz.prog 151 #[.string s] w fun e w'=>e = .returned (.string s)∧Below w.heap.size w w':=by
 have HC:=Any.stringslite_Clone Tryz.laysM316 s w (by omega)
 go_enter Tryz.func151,Tryz.ntmps151
 go_wp2_with fail
 refine HC.mono ?_
 rintro e w1 ⟨rfl,hb⟩
 go_wp2
 go_ret
 exact ⟨rfl,hb⟩
theorem yB0 (l:List Nat):∀ n:Nat,n≤tU n l:=by
 induction l with
 | nil=>intro n; exact Nat.le_refl _
 | cons c r ih=>intro n; exact Nat.le_trans (by omega) (ih (10 * n + (c - 48)))
theorem zK (M:Nat) (hM:M≤18446744073709551615) (l:List UInt8):∀ acc:Nat,(∀ c ∈ l,aY c.toNat = true)→acc≤M →
    Lib.parseUintM M acc l = if tU acc (l.map UInt8.toNat)≤M then .ok (tU acc (l.map UInt8.toNat)) else .range:=by
 induction l with
 | nil=>intro acc _ h; simp [Lib.parseUintM,tU,h]
 | cons c r ih=>?_
 intro acc hd hacc
 have hc:48≤c.toNat∧c.toNat≤57:=by simpa [aY] using hd c (by simp)
 have hstep:tU acc ((c :: r).map UInt8.toNat) = tU (acc * 10 + (c.toNat - 48)) (r.map UInt8.toNat):=by
  show tU (10 * acc + (c.toNat - 48)) _ = _
  rw [Nat.mul_comm]
 have hge:=yB0 (r.map UInt8.toNat) (acc * 10 + (c.toNat - 48))
 rw [Lib.parseUintM,if_pos hc,hstep]
 split
 · rw [if_neg (by omega)]
 split
 · rw [if_neg (by omega)]
 exact ih _ (fun d hd'=>hd d (List.mem_cons_of_mem _ hd')) (by omega)
theorem nE (s:ByteArray) (B T:Nat) (hT:2 ^ B - 1 = T) (hT2:T≤18446744073709551615) (hne:aD s ≠ []) (hd:∀ c ∈ aD s,aY c = true) :
    Lib.parseUintB B s.data.toList = if oZ (aD s)≤T then .ok (oZ (aD s)) else .range:=by
 unfold Lib.parseUintB
 rw [if_neg (fun e=>hne (by unfold aD; rw [e]; rfl)),hT]
 exact zK T hT2 s.data.toList 0 (fun c hc=>hd _ (List.mem_map.2 ⟨c,hc,rfl⟩)) (Nat.zero_le _)
def eV0 (T:Nat):Int:=if T = 255 then 8 else if T = 4294967295 then 32 else 64
theorem tA (s:ByteArray) (h:s.size≤1048576) (V T:Nat) (hT:T = 255∨T = 4294967295∨T = 18446744073709551615) (hne:aD s ≠ []) (hd:∀ c ∈ aD s,aY c = true) (hV:oZ (aD s) = V) (hle:V≤T) (w:World) :
    Calls Tryz.prog 152 #[.string s,.int .i64 10,.int .i64 (eV0 T)] w fun e w'=>e = .returned (.tuple #[.int .u64 (V:Int),.nilIface])∧Below w.heap.size w w':=by
 subst hV
 rcases hT with rfl | rfl | rfl
 · refine (Any.strconv_ParseUint_10_at8_ok Tryz.laysPu14 s (by omega) _ ((nE s 8 255 rfl (by omega) hne hd).trans (if_pos hle)) w).mono ?_
   rintro e w' ⟨rfl,rfl | rfl⟩
   · exact ⟨rfl,Below.refl _ _⟩
   exact ⟨rfl,Lib.bytesWorld_below _ _ _⟩
 · refine (Any.strconv_ParseUint_10_at32_ok Tryz.laysPu14 s (by omega) _ ((nE s 32 4294967295 rfl (by omega) hne hd).trans (if_pos hle)) w).mono ?_
   rintro e w' ⟨rfl,rfl | rfl⟩
   · exact ⟨rfl,Below.refl _ _⟩
   exact ⟨rfl,Lib.bytesWorld_below _ _ _⟩
 refine (Any.strconv_ParseUint_10_at64_ok Tryz.laysPu14 s (by omega) _ ((nE s 64 18446744073709551615 rfl (by omega) hne hd).trans (if_pos hle)) w).mono ?_
 rintro e w' ⟨rfl,rfl | rfl⟩
 · exact ⟨rfl,Below.refl _ _⟩
 exact ⟨rfl,Lib.bytesWorld_below _ _ _⟩
theorem lI0 (s:ByteArray) (h:s.size≤1048576) (V T:Nat) (hT:T = 255∨T = 4294967295∨T = 18446744073709551615) (hne:aD s ≠ []) (hd:∀ c ∈ aD s,aY c = true) (hV:oZ (aD s) = V) (hle:¬ V≤T) (w:World) (hL:jM w) :
    Calls Tryz.prog 152 #[.string s,.int .i64 10,.int .i64 (eV0 T)] w fun e w'=>∃ N,e = .returned (.tuple #[.int .u64 (T:Int),.iface 147 (.pointer (some ⟨N,0,none⟩))])∧Below w.heap.size w w':=by
 subst hV
 obtain ⟨_,te,pe,hc⟩:=hL
 rcases hT with rfl | rfl | rfl
 · refine (Any.strconv_ParseUint_10_at8_range Tryz.laysPu14 s (by omega) ((nE s 8 255 rfl (by omega) hne hd).trans (if_neg hle)) _ w hc (.inr ⟨te,pe,rfl⟩)).mono ?_
   rintro e w' ⟨N,rfl,_,_,hb⟩
   exact ⟨N,rfl,hb⟩
 · refine (Any.strconv_ParseUint_10_at32_range Tryz.laysPu14 s (by omega) ((nE s 32 4294967295 rfl (by omega) hne hd).trans (if_neg hle)) _ w hc (.inr ⟨te,pe,rfl⟩)).mono ?_
   rintro e w' ⟨N,rfl,_,_,hb⟩
   exact ⟨N,rfl,hb⟩
 refine (Any.strconv_ParseUint_10_at64_range Tryz.laysPu14 s (by omega) ((nE s 64 18446744073709551615 rfl (by omega) hne hd).trans (if_neg hle)) _ w hc (.inr ⟨te,pe,rfl⟩)).mono ?_
 rintro e w' ⟨N,rfl,_,_,hb⟩
 exact ⟨N,rfl,hb⟩
theorem pX (x:ByteArray) (T:Nat) (hT:lL (aD x) = T) (w:World):Calls Tryz.prog 153 #[.string x] w fun e w'=>e = .returned (.int .i64 (eV0 T))∧w = w':=by
 have HT:=hI hT
 clear hT
 by_cases h1:aD x = [105,56]
 · have e1:(x.toList == [105,56]) = true:=by rw [fX]; simp [h1]
   have HV:Hid (255 = T):=by unfold Hid; rw [← HT.out,h1]; rfl
   clear h1 HT
   go_enter Tryz.func153,Tryz.ntmps153
   go_wp2
   go_ret
   exact ⟨fK (by rw [← HV.out]; rfl),rfl⟩
 have e1:(x.toList == [105,56]) = false:=by rw [fX]; simp [h1]
 by_cases h2:aD x = [105,51,50]
 · have e2:(x.toList == [105,51,50]) = true:=by rw [fX]; simp [h2]
   have HV:Hid (4294967295 = T):=by unfold Hid; rw [← HT.out,h2]; rfl
   clear h1 h2 HT
   go_enter Tryz.func153,Tryz.ntmps153
   go_wp2
   go_ret
   exact ⟨fK (by rw [← HV.out]; rfl),rfl⟩
 have e2:(x.toList == [105,51,50]) = false:=by rw [fX]; simp [h2]
 have HV:Hid (18446744073709551615 = T):=by unfold Hid; rw [← HT.out]; unfold lL; rw [if_neg h1,if_neg h2]
 clear h1 h2 HT
 go_enter Tryz.func153,Tryz.ntmps153
 go_wp2
 go_ret
 exact ⟨fK (by rw [← HV.out]; rfl),rfl⟩
theorem lO0 (l:List UInt8) (c:UInt8):Lib.indexByte l c = if mX (fun d=>decide (d ≠ c.toNat)) (l.map UInt8.toNat) < l.length then (mX (fun d=>decide (d ≠ c.toNat)) (l.map UInt8.toNat):Int) else -1:=by
 induction l with
 | nil=>rfl
 | cons b r ih=>?_
 rw [Lib.indexByte]
 by_cases h:b = c
 · subst h
   rw [if_pos (by simp),List.map_cons,lY _ _ _ (by simp)]
   simp
 have hne:b.toNat ≠ c.toNat:=fun e=>h (UInt8.toNat_inj.mp e)
 rw [if_neg (by simpa using h),ih,List.map_cons,lE _ _ _ (by simpa using hne)]
 generalize mX (fun d=>decide (d ≠ c.toNat)) (r.map UInt8.toNat) = n
 by_cases hlt:n < r.length
 · rw [if_pos hlt,if_neg (by rw [beq_iff_eq]; omega),if_pos (by rw [List.length_cons]; omega)]; omega
 rw [if_neg hlt,if_pos (by decide),if_neg (by rw [List.length_cons]; omega)]
def qS (l:List Nat):Nat:=mX (fun d=>decide (d ≠ 10)) l
theorem yR (s:ByteArray) (v:Int) (hv:(if qS (aD s) < (aD s).length then (qS (aD s):Int) else -1) = v) (w:World) :
    Calls Tryz.prog 131 #[.string s,.int .u8 10] w fun e w'=>e = .returned (.int .i64 v)∧w = w':=by
 refine (Any.strings_IndexByte Tryz.lays137 s 10 w).mono ?_
 rintro e w' ⟨rfl,rfl⟩
 refine ⟨fK ?_,rfl⟩
 rw [← hv,lO0]
 have e1:((10:Int).toNat.toUInt8).toNat = 10:=rfl
 rw [e1,aK]
 rfl
theorem zB0 {x y:Int} (h:x = y):Ending.returned (.tuple #[.int .u64 x,.nilIface]) = Ending.returned (.tuple #[.int .u64 y,.nilIface]):=by rw [h]
def pI0 (n:Nat) (l:List Nat):Nat:=l.foldl (fun n c=>16 * n + dH c) n
theorem yO (c:Nat) (v:Int) (h:(97≤c∧c≤102∧v = c)∨(65≤c∧c≤70∧v = c + 32)) (w:World) :
    Calls Tryz.prog 182 #[.int .u8 (c:Int)] w fun e w'=>e = .returned (.int .u8 v)∧w = w':=by
 refine (Any.internal_strconv_lower Tryz.lays321 (c:Int) w).mono ?_
 rintro e w' ⟨rfl,rfl⟩
 refine ⟨fK ?_,rfl⟩
 rcases h with ⟨h1,h2,rfl⟩ | ⟨h1,h2,rfl⟩
 · have hc:c = 97∨c = 98∨c = 99∨c = 100∨c = 101∨c = 102:=by omega
   rcases hc with rfl | rfl | rfl | rfl | rfl | rfl <;> decide
 have hc:c = 65∨c = 66∨c = 67∨c = 68∨c = 69∨c = 70:=by omega
 rcases hc with rfl | rfl | rfl | rfl | rfl | rfl <;> decide
theorem yX (c:Nat) (h:¬ dH c = 16):(48≤c∧c≤57∧dH c = c - 48)∨(97≤c∧c≤102∧dH c = c - 97 + 10)∨(65≤c∧c≤70∧dH c = c - 65 + 10):=by
 unfold dH at h ⊢
 by_cases h1:aY c = true
 · rw [if_pos h1]; have:48≤c∧c≤57:=by simpa [aY] using h1
   exact .inl ⟨this.1,this.2,rfl⟩
 rw [if_neg h1] at h ⊢
 by_cases h2:97≤c∧c≤102
 · rw [if_pos h2]; exact .inr (.inl ⟨h2.1,h2.2,rfl⟩)
 rw [if_neg h2] at h ⊢
 by_cases h3:65≤c∧c≤70
 · rw [if_pos h3]; exact .inr (.inr ⟨h3.1,h3.2,rfl⟩)
 rw [if_neg h3] at h; exact absurd rfl h
def zD0 (l:List Nat) (V:Nat) (vu vn vi:Value):Prop:=∃ (k acc:Nat) (a:Int),k≤2∧vu = .bool false∧vn = .int .u64 a∧a = (acc:Int)∧vi = .int .i64 k∧pI0 acc (l.drop k) = V∧acc≤255∧(k = 0→acc = 0)∧(k = 1→acc≤15)
theorem bH1 (t:ByteArray) (hs:t.size = 2) (V:Nat) (hV:pI0 0 (aD t) = V) (hx:∀ c ∈ aD t,¬ dH c = 16) (w:World) :
    Calls Tryz.prog 168 #[.string t,.int .i64 16,.int .i64 8] w fun e w'=>e = .returned (.tuple #[.int .u64 (V:Int),.nilIface])∧w' = Lib.bytesWorld w 5 t:=by
 have hemp:t.toList.isEmpty = false:=by
  rw [← decide_eq_emptyBytes]
  exact decide_eq_false (fun h=>by rw [h] at hs; simp at hs)
 have hcv:=Lib.run_convert_string_bytes (P:=Tryz.prog) w 9 122 5 t (u:=.string) Tryz.underlying9 Tryz.underlying122 Tryz.underlying5
 have hB:∀ j,j < t.size→(Lib.bytesWorld w 5 t).cell? ⟨w.heap.size,j,none⟩ = some (.int .u8 (t.data.toList.getD j 0).toNat):=fun j hj=>Lib.bytesWorld_cell w 5 t j hj
 obtain ⟨W1,hW1⟩:∃ W1,W1 = Lib.bytesWorld w 5 t:=⟨_,rfl⟩
 rw [← hW1] at hcv hB ⊢
 clear hW1
 obtain ⟨l,hl⟩:∃ l,Hid (aD t = l):=⟨_,rfl⟩
 have HB:Hid (∀ j (hj:j < 2),W1.cell? ⟨w.heap.size,j,none⟩ = some (.int .u8 ((l.getD j 0:Nat):Int))):=by
  intro j hj
  rw [hB j (by omega),← hl.out]
  have h2:j < t.data.toList.length:=by rw [Array.length_toList]; show j < t.size; omega
  unfold aD
  rw [List.getD_eq_getElem?_getD,List.getD_eq_getElem?_getD,List.getElem?_map,List.getElem?_eq_getElem h2]; rfl
 have HL:Hid (l.length = 2):=by unfold Hid; rw [← hl.out,aK]; exact hs
 have HX:Hid (∀ c ∈ l,¬ dH c = 16):=by unfold Hid; rw [← hl.out]; exact hx
 have HV:Hid (pI0 0 l = V):=by unfold Hid; rw [← hl.out]; exact hV
 have hmv:IntKind.u64.wrap (IntKind.u64.wrap 256 - 1) = 255:=by
  rw [IntKind.wrap_u64,IntKind.wrap_u64]
  decide
 clear hB hx hV
 rw [hs] at hcv
 go_enter Tryz.func168,Tryz.ntmps168
 go_wp2_with fail
 go_loop [12,13,101] (fun vu vn vi=>zD0 l V vu vn vi) (fun _ _ vi=>2 - (intOf vi).toNat)
 case atStart=>exact ⟨0,0,0,by omega,rfl,rfl,rfl,rfl,by rw [List.drop_zero]; exact HV.out,by omega,fun _=>rfl,fun h=>by omega⟩
 case round =>
  obtain ⟨k,acc,a,hk,rfl,rfl,haa,rfl,hF,ha,ha0,ha2⟩:=hrel
  have HAA:=hI haa
  have HF:=hI hF
  clear hF
  by_cases hkn:k < 2
  · have a1:acc≤15:=by omega
    have b0:0≤a:=by omega
    have b1:a≤15:=by omega
    have A1:=hI a1
    have A0:=hI ha0
    have hlen:k < l.length:=by rw [HL.out]; exact hkn
    obtain ⟨c,hcd⟩:∃ c,Hid (l.getD k 0 = c):=⟨_,rfl⟩
    have hc:=HB.out k hkn
    rw [hcd.out] at hc
    have hcl:l[k] = c:=by rw [← hcd.out,List.getD_eq_getElem?_getD,List.getElem?_eq_getElem hlen]; rfl
    have hxc:=yX c (HX.out c (by rw [← hcl]; exact List.getElem_mem hlen))
    obtain ⟨d,hd⟩:∃ d,Hid (dH c = d):=⟨_,rfl⟩
    have HF2:Hid (pI0 (16 * acc + d) (l.drop (k + 1)) = V):=by
     unfold Hid
     rw [← HF.out,List.drop_eq_getElem_cons hlen,hcl,← hd.out]; rfl
    rw [hd.out] at hxc
    clear ha2 ha0 hcl a1 haa ha
    rcases hxc with ⟨h1,h2,h3⟩ | ⟨h1,h2,h3⟩ | ⟨h1,h2,h3⟩
    · have H3:Hid (d = c - 48):=h3
      have iov:a * 16 + ((c:Int) - 48)≤255:=by omega
      have HN:Hid (a * 16 + ((c:Int) - 48) = ((16 * acc + d:Nat):Int)):=by have:=HAA.out; unfold Hid; omega
      clear h3
      go_wp2
      refine ⟨⟨k + 1,16 * acc + d,_,by omega,rfl,rfl,HN.out,(by first | rfl | (congr 1; omega)),HF2.out,by have:=A1.out; have:=H3.out; omega,fun q=>by omega,fun q=>by have:=A0.out (by omega); have:=H3.out; omega⟩,by simp [intOf]; omega⟩
    · have H3:Hid (d = c - 97 + 10):=h3
      have iov:a * 16 + ((c:Int) - 97 + 10)≤255:=by omega
      have HN:Hid (a * 16 + ((c:Int) - 97 + 10) = ((16 * acc + d:Nat):Int)):=by have:=HAA.out; unfold Hid; omega
      clear h3
      go_wp2_with (go_at_call 182; refine (yO c (c:Int) (by omega) _).mono ?_; rintro e w' ⟨rfl,rfl⟩)
      refine ⟨⟨k + 1,16 * acc + d,_,by omega,rfl,rfl,HN.out,(by first | rfl | (congr 1; omega)),HF2.out,by have:=A1.out; have:=H3.out; omega,fun q=>by omega,fun q=>by have:=A0.out (by omega); have:=H3.out; omega⟩,by simp [intOf]; omega⟩
    have H3:=hI h3
    have iov:a * 16 + ((c:Int) + 32 - 97 + 10)≤255:=by omega
    have HN:Hid (a * 16 + ((c:Int) + 32 - 97 + 10) = ((16 * acc + d:Nat):Int)):=by have:=HAA.out; unfold Hid; omega
    clear h3
    go_wp2_with (go_at_call 182; refine (yO c ((c:Int) + 32) (by omega) _).mono ?_; rintro e w' ⟨rfl,rfl⟩)
    refine ⟨⟨k + 1,16 * acc + d,_,by omega,rfl,rfl,HN.out,(by first | rfl | (congr 1; omega)),HF2.out,by have:=A1.out; have:=H3.out; omega,fun q=>by omega,fun q=>by have:=A0.out (by omega); have:=H3.out; omega⟩,by simp [intOf]; omega⟩
  have hkk:k = 2:=by omega
  subst hkk
  have HE:Hid (acc = V):=by unfold Hid; rw [← HF.out,List.drop_eq_nil_of_le (by rw [HL.out]; exact Nat.le_refl _)]; rfl
  go_wp2
  go_ret2
  exact ⟨zB0 (by rw [HE.out]),rfl⟩
theorem uX0 (t:ByteArray) (d e:Nat) (ht:aD t = [d,e]) (hd:¬ dH d = 16) (he:¬ dH e = 16) (V:Nat) (hV:16 * dH d + dH e = V) (w:World) :
    Calls Tryz.prog 152 #[.string t,.int .i64 16,.int .i64 8] w fun e w'=>e = .returned (.tuple #[.int .u64 (V:Int),.nilIface])∧Below w.heap.size w w':=by
 have hs:t.size = 2:=by rw [← aK,ht]; rfl
 have HI:=bH1 t hs V (by rw [ht,← hV]; simp [pI0]) (by rw [ht]; intro c hc; simp at hc; rcases hc with rfl | rfl; exact hd; exact he) w
 clear ht hs hV
 go_enter Tryz.func152,Tryz.ntmps152
 go_wp2_with fail
 refine HI.mono ?_
 rintro e w1 ⟨rfl,rfl⟩
 go_wp2
 go_ret2
 exact ⟨rfl,Lib.bytesWorld_below _ _ _⟩
end Go.Proofs.YtnipenijihkgdaaGreatDoor
