import Derived.Test.YtnipenijihkgdaaGreatDoorNd
import Derived.Test.YtnipenijihkgdaaGreatDoorChecked
import Derived.Test.YtnipenijihkgdaaGreatDoorQ0
import Derived.WalkKit
import Derived.WalkLawsBesides
import Derived.WalkSpells
import Derived.Handy
import Derived.Outline
import Derived.Below
import Derived.Laws.BytesArg
set_option maxHeartbeats 2000000
set_option maxRecDepth 1000000
namespace Go.Proofs.YtnipenijihkgdaaGreatDoor
open Go.RowKit
set_option linter.unusedVariables false
theorem fK {k:IntKind} {x y:Int} (h:x = y):Ending.returned (.int k x) = Ending.returned (.int k y):=by rw [h]
theorem aW {x y:Bool} (h:x = y):Ending.returned (.bool x) = Ending.returned (.bool y):=by rw [h]
theorem eG {P:Program} {fn:Func} {R:Ending→World→Prop} {a:Act} {w:World} {p u:Tmp} {ty:TypeId} {g:Nat} {t:TypeId} {cs:Array Value} {fr:Nat × Nat} {d:TypeDesc} (h:fn.results = #[.cell p ty,.tmp u])
    (hp:a.tmps.getD p undef = .pointer (some ⟨g,0,none⟩)) (hd:a.defers = []) (hg:w.heap[g]? = some (.cells cs t fr))
    (hu:P.underlying ty = some d) (hd2:(match d with | .struct _ | .array _ _=>true | _=>false) = true) (hi:(P.info? ty).map (·.size) = some cs.size)
    (hR:R (.returned (.tuple #[.agg cs,a.tmps.getD u undef])) w):bodyPost P fn R .ret a w:=by
 refine bodyPost_ret ?_ hd hR
 have hp':a.tmps[p]?.getD undef = .pointer (some ⟨g,0,none⟩):=by simpa using hp
 simp [results,h,hp',asAddr,run_loadVar_row w g t ty cs fr d hg hu hd2 hi]
theorem aM {P:Program} {fn:Func} {R:Ending→World→Prop} {a:Act} {w:World} {p u v:Tmp} {ty:TypeId} {g:Nat} {t:TypeId} {cs:Array Value} {fr:Nat × Nat} {d:TypeDesc} (h:fn.results = #[.cell p ty,.tmp u,.tmp v])
    (hp:a.tmps.getD p undef = .pointer (some ⟨g,0,none⟩)) (hd:a.defers = []) (hg:w.heap[g]? = some (.cells cs t fr))
    (hu:P.underlying ty = some d) (hd2:(match d with | .struct _ | .array _ _=>true | _=>false) = true) (hi:(P.info? ty).map (·.size) = some cs.size)
    (hR:R (.returned (.tuple #[.agg cs,a.tmps.getD u undef,a.tmps.getD v undef])) w):bodyPost P fn R .ret a w:=by
 refine bodyPost_ret ?_ hd hR
 have hp':a.tmps[p]?.getD undef = .pointer (some ⟨g,0,none⟩):=by simpa using hp
 simp [results,h,hp',asAddr,run_loadVar_row w g t ty cs fr d hg hu hd2 hi]
def aD (s:ByteArray):List Nat:=s.data.toList.map UInt8.toNat
theorem aK (s:ByteArray):(aD s).length = s.size:=by unfold aD; rw [List.length_map,Array.length_toList]; rfl
theorem dO (s:ByteArray):∀ c ∈ aD s,c < 256:=by
 intro c hc
 simp only [aD,List.mem_map] at hc
 obtain ⟨u,_,rfl⟩:=hc
 exact u.toNat_lt
theorem oD (s:ByteArray) (k:Nat) (h:k < s.size):(aD s)[k]? = some (s[k]'h).toNat:=by
 unfold aD
 rw [List.getElem?_map,Array.getElem?_toList]
 have h2:k < s.data.size:=h
 rw [Array.getElem?_eq_getElem h2]; rfl
theorem bY (s:ByteArray) (k:Nat) (h:k < s.size):(aD s).drop k = (s[k]'h).toNat :: (aD s).drop (k + 1):=by
 have h1:k < (aD s).length:=by rw [aK]; exact h
 rw [List.drop_eq_getElem_cons h1]
 congr 1
 have:=oD s k h
 rw [List.getElem?_eq_getElem h1] at this
 exact Option.some.inj this
theorem eM (s:ByteArray) (a b:Nat):aD (s.extract a b) = ((aD s).drop a).take (b - a):=by
 unfold aD
 rw [ByteArray.data_extract]
 simp [List.map_take,List.map_drop,Array.toList_extract,List.extract]
theorem iK {s t:ByteArray} (h:aD s = aD t):s = t:=by
 unfold aD at h
 have h1:s.data.toList = t.data.toList:=by
  have inj:Function.Injective UInt8.toNat:=fun a b h=>UInt8.toNat_inj.mp h
  exact (List.map_inj_right fun a b h=>inj h).mp h
 cases s; cases t
 simp only at h1
 congr 1
 exact Array.toList_inj.mp h1
theorem mH (s t:ByteArray):(s.toList == t.toList) = decide (aD s = aD t):=by
 rw [ByteArray.toList_eq,ByteArray.toList_eq,Bool.eq_iff_iff]
 simp only [beq_iff_eq,decide_eq_true_eq]
 constructor
 · intro h; unfold aD; rw [h]
 intro h; rw [iK h]
theorem dL (c:Nat) (w:World):Calls Tryz.prog 114 #[.int .u8 (c:Int)] w fun e w'=>e = .returned (.bool (aY c))∧w = w':=by
 go_enter Tryz.func114,Tryz.ntmps114
 go_wp2
 all_goals (go_ret; refine ⟨aW ?_,rfl⟩; rw [Bool.eq_iff_iff]; simp [aY]; omega)
theorem fC (c:Nat) (w:World):Calls Tryz.prog 102 #[.int .u8 (c:Int)] w fun e w'=>e = .returned (.bool (bO c))∧w = w':=by
 go_enter Tryz.func102,Tryz.ntmps102
 go_wp2
 all_goals (go_ret; refine ⟨aW ?_,rfl⟩; rw [Bool.eq_iff_iff]; simp [bO]; omega)
theorem nN (c:Nat) (w:World):Calls Tryz.prog 140 #[.int .u8 (c:Int)] w fun e w'=>e = .returned (.bool (lN c))∧w = w':=by
 go_enter Tryz.func140,Tryz.ntmps140
 go_wp2
 all_goals (go_ret; refine ⟨aW ?_,rfl⟩; rw [Bool.eq_iff_iff]; simp [lN]; omega)
def mZ (c:Nat):Int:=if dH c = 16 then -1 else (dH c:Int)
theorem nC0 (c:Nat) (h:48≤c∧c≤57):(c:Int) - 48 = mZ c:=by
 have:dH c = c - 48:=by unfold dH; rw [if_pos (by simpa [aY] using h)]
 unfold mZ; rw [this,if_neg (by omega)]; omega
theorem pT0 (c:Nat) (h:97≤c∧c≤102):(c:Int) - 97 + 10 = mZ c:=by
 have:dH c = c - 97 + 10:=by unfold dH; rw [if_neg (by simp [aY]; omega),if_pos h]
 unfold mZ; rw [this,if_neg (by omega)]; omega
theorem vL0 (c:Nat) (h:65≤c∧c≤70):(c:Int) - 65 + 10 = mZ c:=by
 have:dH c = c - 65 + 10:=by unfold dH; rw [if_neg (by simp [aY]; omega),if_neg (by omega),if_pos h]
 unfold mZ; rw [this,if_neg (by omega)]; omega
theorem jD0 (c:Nat) (h1:¬ (48≤c∧c≤57)) (h2:¬ (97≤c∧c≤102)) (h3:¬ (65≤c∧c≤70)):-1 = mZ c:=by
 have:dH c = 16:=by unfold dH; rw [if_neg (by simp [aY]; omega),if_neg h2,if_neg h3]
 unfold mZ; rw [this,if_pos rfl]
theorem pW (c:Nat):dH c≤16:=by
 unfold dH aY
 split
 · rename_i h; simp at h; omega
 split
 · omega
 split <;> omega
theorem oJ (c:Nat) (v:Int) (hv:mZ c = v) (hc:c < 256) (w:World):Calls Tryz.prog 159 #[.int .u8 (c:Int)] w fun e w'=>e = .returned (.int .i64 v)∧w = w':=by
 have HV:=hI hv
 clear hv
 by_cases hd:aY c = true
 · have h1:48≤c∧c≤57:=by simpa [aY] using hd
   have HD:=hI hd
   clear hd
   go_enter Tryz.func159,Tryz.ntmps159
   go_wp2_with fail
   refine (dL c _).mono ?_
   rw [HD.out]
   rintro e wx ⟨rfl,rfl⟩
   go_wp2
   go_ret
   exact ⟨fK ((nC0 c h1).trans HV.out),rfl⟩
 have hd':aY c = false:=by simpa using hd
 have h1:¬ (48≤c∧c≤57):=by simpa [aY] using hd
 have HD:=hI hd'
 clear hd hd'
 go_enter Tryz.func159,Tryz.ntmps159
 go_wp2_with fail
 refine (dL c _).mono ?_
 rw [HD.out]
 rintro e wx ⟨rfl,rfl⟩
 go_wp2
 all_goals (go_ret; refine ⟨fK ?_,rfl⟩; rw [← HV.out])
 all_goals (first | exact pT0 c (by omega) | exact vL0 c (by omega) | exact jD0 c h1 (by omega) (by omega))
theorem cK (s:ByteArray) (x:Int) (k c:Nat) (hx:x = k) (hk:k < s.size) (hc:(s[k]'hk).toNat = c) (h:s.size≤1048576) (w:World) :
    Calls Tryz.prog 139 #[.string s,.int .i64 x] w fun e w'=>e = .returned (.bool (bM c))∧w = w':=by
 subst hx
 go_enter Tryz.func139,Tryz.ntmps139
 go_wp2
 all_goals (go_ret; refine ⟨aW ?_,rfl⟩; rw [Bool.eq_iff_iff]; simp [bM]; omega)
theorem pS (s:ByteArray) (x:Int) (k:Nat) (hx:x = k) (hk:s.size≤k) (h:s.size≤1048576) (w:World) :
    Calls Tryz.prog 139 #[.string s,.int .i64 x] w fun e w'=>e = .returned (.bool true)∧w = w':=by
 subst hx
 go_enter Tryz.func139,Tryz.ntmps139
 go_wp2
 go_ret
 exact ⟨rfl,rfl⟩
theorem pJ (s x:ByteArray) (y:Int) (k:Nat) (hy:y = k) (hk:k≤s.size) (h:s.size≤1048576) (hx:x.size≤1048576) (w:World) :
    Calls Tryz.prog 113 #[.string s,.int .i64 y,.string x] w fun e w'=>e = .returned (.bool (dG ((aD s).drop k) (aD x)))∧w = w':=by
 subst hy
 by_cases hle:k + x.size≤s.size
 · go_enter Tryz.func113,Tryz.ntmps113
   go_wp2
   go_ret
   refine ⟨aW ?_,rfl⟩
   rw [mH,eM,dG,aK,Nat.add_sub_cancel_left]
 have hf:dG ((aD s).drop k) (aD x) = false:=by
  unfold dG
  simp only [decide_eq_false_iff_not]
  intro q
  have:=congrArg List.length q
  rw [List.length_take,List.length_drop,aK,aK] at this
  omega
 rw [hf]
 clear hf
 go_enter Tryz.func113,Tryz.ntmps113
 go_wp2
 go_ret
 exact ⟨rfl,rfl⟩
theorem qO (c:Nat) (r:List Nat) (h:cO c = true):fL (c :: r) = 1 + fL r:=by unfold fL; rw [List.takeWhile_cons,if_pos h,List.length_cons]; omega
theorem fU0 (c:Nat) (r:List Nat) (h:cO c = false):fL (c :: r) = 0:=by unfold fL; rw [List.takeWhile_cons,if_neg (by simp [h])]; rfl
theorem hH (s:ByteArray):(aD s).drop s.size = []:=by rw [← aK]; exact List.drop_length
def vX0 (s:ByteArray) (E:Nat) (i:Value):Prop:=∃ k:Nat,k≤s.size∧i = .int .i64 k∧k + fL ((aD s).drop k) = E
theorem jA (s:ByteArray) (y:Int) (p E:Nat) (hy:y = p) (hp:p≤s.size) (h:s.size≤1048576) (hE:p + fL ((aD s).drop p) = E) (w:World) :
    Calls Tryz.prog 103 #[.string s,.int .i64 y] w fun e w'=>e = .returned (.int .i64 (E:Int))∧w = w':=by
 subst hy
 go_enter Tryz.func103,Tryz.ntmps103
 go_wp2
 go_loop [1] (fun i=>vX0 s E i) (fun i=>s.size - (intOf i).toNat)
 case atStart=>exact ⟨p,hp,rfl,hE⟩
 case round =>
  obtain ⟨k,hk,rfl,hkE⟩:=hrel
  have HE:=hI hkE
  clear hkE hE
  by_cases hlt:k < s.size
  · have hdrop:=bY s k hlt
    obtain ⟨c,hc⟩:=iQ ((s[k]'hlt).toNat)
    rw [hc] at hdrop
    have HD:=hI hdrop
    clear hdrop
    by_cases hl:bO c = true
    · have HL:Hid (bO c = true):=hl
      clear hl
      go_wp2_with fail
      refine (fC c _).mono ?_
      rw [HL.out]
      rintro e wx ⟨rfl,rfl⟩
      go_wp2
      go_round
      case rel=>exact ⟨k + 1,by omega,by go_num,by rw [← HE.out,HD.out,qO c _ (by simp [cO,HL.out])]; omega⟩
      case measure=>simp [intOf]; omega
    have HL:Hid (bO c = false):=by simpa [Hid] using hl
    clear hl
    by_cases hd:aY c = true
    · have HG:Hid (aY c = true):=hd
      clear hd
      go_wp2_with fail
      refine (fC c _).mono ?_
      rw [HL.out]
      rintro e wx ⟨rfl,rfl⟩
      go_wp2_with fail
      refine (dL c _).mono ?_
      rw [HG.out]
      rintro e wx ⟨rfl,rfl⟩
      go_wp2
      go_round
      case rel=>exact ⟨k + 1,by omega,by go_num,by rw [← HE.out,HD.out,qO c _ (by simp [cO,HG.out])]; omega⟩
      case measure=>simp [intOf]; omega
    have HG:Hid (aY c = false):=by simpa [Hid] using hd
    clear hd
    go_wp2_with fail
    refine (fC c _).mono ?_
    rw [HL.out]
    rintro e wx ⟨rfl,rfl⟩
    go_wp2_with fail
    refine (dL c _).mono ?_
    rw [HG.out]
    rintro e wx ⟨rfl,rfl⟩
    go_wp2
    go_ret
    refine ⟨fK ?_,rfl⟩
    rw [← HE.out,HD.out,fU0 c _ (by simp [cO,HL.out,HG.out])]; omega
  have hks:k = s.size:=by omega
  have HF:Hid (k = E):=by unfold Hid; rw [← HE.out,hks,hH]; rfl
  clear HE
  subst hks
  go_wp2
  go_ret
  exact ⟨fK (by rw [HF.out]),rfl⟩
theorem yK (c:Nat) (r:List Nat):aP true (c :: r) = 1 + aP (decide (c ≠ 10)) r:=by rw [aP]
theorem tO (l:List Nat) (h:dG l [47,47] = true):aP false l = aP true l:=by
 unfold dG at h
 simp only [decide_eq_true_eq] at h
 match l,h with
 | 47 :: 47 :: r,_=>simp [aP]
theorem yF (r:List Nat):aP true (10 :: r) = aP false (10 :: r):=by simp [aP,fO]
theorem vT (c:Nat) (r:List Nat) (h:dG (c :: r) [47,47] = false) (hb:fO c = true):aP false (c :: r) = 1 + aP false r:=by
 rw [aP,if_neg,if_pos hb]
 intro q
 unfold dG at h
 simp only [decide_eq_false_iff_not] at h
 apply h
 obtain ⟨rfl,q⟩:=q
 cases r with
 | nil=>simp at q
 | cons d t=>simp at q; subst q; rfl
theorem uP (c:Nat) (r:List Nat) (h:dG (c :: r) [47,47] = false) (hb:fO c = false):aP false (c :: r) = 0:=by
 rw [aP,if_neg,if_neg (by simp [hb])]
 intro q
 unfold dG at h
 simp only [decide_eq_false_iff_not] at h
 apply h
 obtain ⟨rfl,q⟩:=q
 cases r with
 | nil=>simp at q
 | cons d t=>simp at q; subst q; rfl
def zK0 (s:ByteArray) (E K:Nat) (i:Value):Prop:=∃ j:Nat,K≤j∧j≤s.size∧i = .int .i64 j∧j + aP true ((aD s).drop j) = E
def sY0 (s:ByteArray) (E:Nat) (m:Bool) (i:Value):Prop:=∃ k:Nat,k≤s.size∧i = .int .i64 k∧k + aP m ((aD s).drop k) = E
theorem xV (s:ByteArray) (y:Int) (p E:Nat) (hy:y = p) (hp:p≤s.size) (h:s.size≤1048576) (hE:p + aP false ((aD s).drop p) = E) (w:World) :
    Calls Tryz.prog 79 #[.string s,.int .i64 y] w fun e w'=>e = .returned (.int .i64 (E:Int))∧w = w':=by
 subst hy
 go_enter Tryz.func79,Tryz.ntmps79
 go_wp2
 go_loop [1] (fun i=>sY0 s E false i) (fun i=>s.size - (intOf i).toNat)
 case atStart=>exact ⟨p,hp,rfl,hE⟩
 case round =>
  obtain ⟨k,hk,rfl,hkE⟩:=hrel
  have HE:=hI hkE
  clear hkE hE
  by_cases hlt:k < s.size
  · have hdrop:=bY s k hlt
    obtain ⟨c,hc⟩:=iQ ((s[k]'hlt).toNat)
    rw [hc] at hdrop
    have HD:=hI hdrop
    clear hdrop
    by_cases hr:dG ((aD s).drop k) [47,47] = true
    · have HR:Hid (dG ((aD s).drop k) [47,47] = true):=hr
      have HL:Hid (k + aP true ((aD s).drop k) = E):=by unfold Hid; rw [← tO _ hr]; exact HE.out
      have HC:Hid (c ≠ 10):=by
       unfold Hid; intro q; subst q
       rw [HD.out] at hr; simp [dG] at hr
      clear hr
      go_wp2_with fail
      refine (pJ s ⟨#[47,47]⟩ k k rfl hk h (by decide) _).mono ?_
      rw [show aD ⟨#[47,47]⟩ = [47,47] from rfl,HR.out]
      rintro e wx ⟨rfl,rfl⟩
      go_wp2_with fail
      go_loop [1] (fun i=>zK0 s E k i) (fun i=>s.size - (intOf i).toNat)
      case atStart=>exact ⟨k,by omega,by omega,rfl,HL.out⟩
      case round =>
       obtain ⟨j,hkj,hj,rfl,hjE⟩:=hrel
       have HJ:=hI hjE
       clear hjE
       by_cases hlt2:j < s.size
       · have hdrop:=bY s j hlt2
         obtain ⟨d,hd⟩:=iQ ((s[j]'hlt2).toNat)
         rw [hd] at hdrop
         have HD2:=hI hdrop
         clear hdrop
         by_cases h10:d = 10
         · have hne:k ≠ j:=by
            intro q; subst q
            exact HC.out (by rw [← hc,hd]; exact h10)
           subst h10
           have HJ2:Hid (j + aP false ((aD s).drop j) = E):=by
            unfold Hid; rw [← HJ.out,HD2.out,yF]
           go_wp2
           go_round
           case rel=>exact ⟨j,by omega,by go_num,HJ2.out⟩
           case measure=>simp [intOf]; omega
         have hb:((d:Int) != 10) = true:=by simp; omega
         have HJ2:Hid (j + 1 + aP true ((aD s).drop (j + 1)) = E):=by
          unfold Hid; rw [← HJ.out,HD2.out,yK]; simp [h10]; omega
         clear h10
         go_wp2
         go_round
         case rel=>exact ⟨j + 1,by omega,by omega,by go_num,HJ2.out⟩
         case measure=>simp [intOf]; omega
       have hjs:j = s.size:=by omega
       have HF:Hid (j + aP false ((aD s).drop j) = E):=by
        unfold Hid; rw [← HJ.out,hjs,hH]; rfl
       have hne:k < j:=by omega
       have hj0:¬ (j:Int) < (s.size:Int):=by omega
       clear HJ
       go_wp2
       go_round
       case rel=>exact ⟨j,by omega,by go_num,HF.out⟩
       case measure=>simp [intOf]; omega
    have HR:Hid (dG ((aD s).drop k) [47,47] = false):=by simpa [Hid] using hr
    clear hr
    have HR2:Hid (dG (c :: (aD s).drop (k + 1)) [47,47] = false):=by unfold Hid; rw [← HD.out]; exact HR.out
    by_cases hb:fO c = true
    · have HE2:Hid (k + 1 + aP false ((aD s).drop (k + 1)) = E):=by
       unfold Hid; rw [← HE.out,HD.out,vT c _ HR2.out hb]; omega
      have hcs:c = 9∨c = 10∨c = 13∨c = 32:=by simpa [fO,or_assoc] using hb
      clear hb
      rcases hcs with rfl | rfl | rfl | rfl
      all_goals
       go_wp2_with fail
       refine (pJ s ⟨#[47,47]⟩ k k rfl hk h (by decide) _).mono ?_
       rw [show aD ⟨#[47,47]⟩ = [47,47] from rfl,HR.out]
       rintro e wx ⟨rfl,rfl⟩
       go_wp2
       go_round
       case rel=>exact ⟨k + 1,by omega,by go_num,HE2.out⟩
       case measure=>simp [intOf]; omega
    have hb':fO c = false:=by simpa using hb
    have HF:Hid (k = E):=by unfold Hid; rw [← HE.out,HD.out,uP c _ HR2.out hb']; rfl
    have hcs:¬ c = 9∧¬ c = 10∧¬ c = 13∧¬ c = 32:=by simpa [fO,and_assoc] using hb'
    have e1:((c:Int) != 9) = true:=by simp; omega
    have e2:((c:Int) != 10) = true:=by simp; omega
    have e3:((c:Int) != 13) = true:=by simp; omega
    have e4:((c:Int) != 32) = true:=by simp; omega
    clear hb hb' hcs
    go_wp2_with fail
    refine (pJ s ⟨#[47,47]⟩ k k rfl hk h (by decide) _).mono ?_
    rw [show aD ⟨#[47,47]⟩ = [47,47] from rfl,HR.out]
    rintro e wx ⟨rfl,rfl⟩
    go_wp2
    go_ret
    exact ⟨fK (by rw [HF.out]),rfl⟩
  have hks:k = s.size:=by omega
  have HF:Hid (k = E):=by unfold Hid; rw [← HE.out,hks,hH]; rfl
  clear HE
  subst hks
  go_wp2
  go_ret
  exact ⟨fK (by rw [HF.out]),rfl⟩
def tU (n:Nat) (ds:List Nat):Nat:=ds.foldl (fun n c=>10 * n + (c - 48)) n
theorem rT (c:Nat) (r:List Nat) (h:aY c = true):mU (c :: r) = 1 + mU r:=by unfold mU; rw [List.takeWhile_cons,if_pos h,List.length_cons]; omega
theorem lY0 (c:Nat) (r:List Nat) (h:aY c = false):mU (c :: r) = 0:=by unfold mU; rw [List.takeWhile_cons,if_neg (by simp [h])]; rfl
theorem mR0 (c:Nat) (r:List Nat) (n:Nat) (h:aY c = true):tU n ((c :: r).takeWhile aY) = tU (10 * n + (c - 48)) (r.takeWhile aY):=by
 rw [List.takeWhile_cons,if_pos h]; rfl
theorem kO0 (c:Nat) (r:List Nat) (n:Nat) (h:aY c = false):tU n ((c :: r).takeWhile aY) = n:=by
 rw [List.takeWhile_cons,if_neg (by simp [h])]; rfl
theorem fX (x:ByteArray) (l:List UInt8):(x.toList == l) = decide (aD x = l.map UInt8.toNat):=by
 rw [ByteArray.toList_eq,Bool.eq_iff_iff]
 simp only [beq_iff_eq,decide_eq_true_eq]
 constructor
 · intro h; unfold aD; rw [h]
 intro h
 unfold aD at h
 exact (List.map_inj_right fun a b h=>UInt8.toNat_inj.mp h).mp h
theorem uA (x:ByteArray) (t:Nat) (ht:lL (aD x) = t) (w:World):Calls Tryz.prog 67 #[.string x] w fun e w'=>e = .returned (.int .u64 (t:Int))∧w = w':=by
 have HT:=hI ht
 clear ht
 by_cases h1:aD x = [105,56]
 · have e1:(x.toList == [105,56]) = true:=by rw [fX]; simp [h1]
   have HV:Hid (255 = t):=by unfold Hid; rw [← HT.out,h1]; rfl
   clear h1 HT
   go_enter Tryz.func67,Tryz.ntmps67
   go_wp2
   go_ret
   exact ⟨fK (by rw [← HV.out]; rfl),rfl⟩
 have e1:(x.toList == [105,56]) = false:=by rw [fX]; simp [h1]
 by_cases h2:aD x = [105,51,50]
 · have e2:(x.toList == [105,51,50]) = true:=by rw [fX]; simp [h2]
   have HV:Hid (4294967295 = t):=by unfold Hid; rw [← HT.out,h2]; rfl
   clear h1 h2 HT
   go_enter Tryz.func67,Tryz.ntmps67
   go_wp2
   go_ret
   exact ⟨fK (by rw [← HV.out]; rfl),rfl⟩
 have e2:(x.toList == [105,51,50]) = false:=by rw [fX]; simp [h2]
 have HV:Hid (18446744073709551615 = t):=by unfold Hid; rw [← HT.out]; unfold lL; rw [if_neg h1,if_neg h2]
 clear h1 h2 HT
 go_enter Tryz.func67,Tryz.ntmps67
 go_wp2
 go_ret
 exact ⟨fK (by rw [← HV.out]; rfl),rfl⟩
theorem yU (x:ByteArray) (h:oS (aD x) = true):x = ⟨#[]⟩∨x = ⟨#[105,56]⟩∨x = ⟨#[105,51,50]⟩∨x = ⟨#[105,54,52]⟩:=by
 simp only [oS,Bool.or_eq_true,decide_eq_true_eq] at h
 rcases h with ((h | h) | h) | h
 · exact .inl (iK h)
 · exact .inr (.inl (iK h))
 · exact .inr (.inr (.inl (iK h)))
 exact .inr (.inr (.inr (iK h)))
theorem iD0 (x:ByteArray) (h:oS (aD x) = false):(x.toList == []) = false∧(x.toList == [105,56]) = false∧(x.toList == [105,51,50]) = false∧(x.toList == [105,54,52]) = false:=by
 simp only [oS,Bool.or_eq_false_iff,decide_eq_false_iff_not] at h
 obtain ⟨⟨⟨h1,h2⟩,h3⟩,h4⟩:=h
 exact ⟨by rw [fX]; simp [h1],by rw [fX]; simp [h2],by rw [fX]; simp [h3],by rw [fX]; simp [h4]⟩
def yT0 (s:ByteArray) (VT E:Nat) (v o i:Value):Prop:=∃ (k V N:Nat) (b:Bool),k≤s.size∧i = .int .i64 k∧v = .int .u64 (N:Int)∧o = .bool b ∧
 (b = false→N = V∧V≤18446744073709551615)∧(b = true→18446744073709551615 < V)∧N≤18446744073709551615∧tU V (((aD s).drop k).takeWhile aY) = VT∧k + mU ((aD s).drop k) = E
def iJ (x:ByteArray) (V:Nat):Bool:=oS (aD x) && decide (V≤lL (aD x))
theorem tY0 (l:List Nat):lL l≤18446744073709551615:=by unfold lL; split; omega; split <;> omega
def pP (p F V:Nat) (x:ByteArray):Value:=if iJ x V then .tuple #[.agg #[.int .u8 2,.string x,.int .u64 (V:Int),.int .i64 (p:Int),.int .i64 (F:Int)],.int .i64 0]
 else .tuple #[.agg #[.int .u8 0,.string ⟨#[]⟩,.int .u64 0,.int .i64 0,.int .i64 0],.int .i64 33]
theorem sH (p F V:Nat) (x:ByteArray) (h:iJ x V = true):pP p F V x = .tuple #[.agg #[.int .u8 2,.string x,.int .u64 (V:Int),.int .i64 (p:Int),.int .i64 (F:Int)],.int .i64 0]:=by unfold pP; rw [if_pos h]
theorem kU (p F V:Nat) (x:ByteArray) (h:iJ x V = false):pP p F V x = .tuple #[.agg #[.int .u8 0,.string ⟨#[]⟩,.int .u64 0,.int .i64 0,.int .i64 0],.int .i64 33]:=by unfold pP; rw [if_neg (by simp [h])]
theorem vG (s:ByteArray) (y:Int) (p E F VT:Nat) (x:ByteArray) (hy:y = p) (hp:p≤s.size) (h:s.size≤1048576) (hE:p + mU ((aD s).drop p) = E) (hV:oZ (((aD s).drop p).takeWhile aY) = VT)
    (hF:E + fL ((aD s).drop E) = F) (hFs:F≤s.size) (hx:s.extract E F = x) (w:World) :
    Calls Tryz.prog 115 #[.string s,.int .i64 y] w fun e w'=>e = .returned (pP p F VT x)∧Below w.heap.size w w':=by
 subst hy
 have HV:=hI hV
 have HE0:=hI hE
 have HF:=hI hF
 have hEF:E≤F:=by omega
 obtain ⟨R,hR⟩:∃ R,Hid (pP p F VT x = R):=⟨_,rfl⟩
 rw [hR.out]
 clear hV hE hF
 go_enter Tryz.func115,Tryz.ntmps115
 go_wp2
 go_loop [6,7,8] (fun v o i=>yT0 s VT E v o i) (fun _ _ i=>s.size - (intOf i).toNat)
 case atStart=>exact ⟨p,0,0,false,hp,rfl,rfl,rfl,fun _=>⟨rfl,by omega⟩,fun q=>(by cases q),by omega,HV.out,HE0.out⟩
 case round =>
  obtain ⟨k,V,N,b,hk,rfl,rfl,rfl,hb1,hb2,hN,hval,hkE⟩:=hrel
  have HE:=hI hkE
  have HW:=hI hval
  have H1:=hI hb1
  have H2:=hI hb2
  clear hkE hval hb1 hb2
  by_cases hlt:k < s.size
  · have hdrop:=bY s k hlt
    obtain ⟨c,hc⟩:=iQ ((s[k]'hlt).toNat)
    rw [hc] at hdrop
    have HD:=hI hdrop
    clear hdrop
    by_cases hd:aY c = true
    · have HG:Hid (aY c = true):=hd
      have hc2:48≤c∧c≤57:=by simpa [aY] using hd
      have HE2:Hid (k + 1 + mU ((aD s).drop (k + 1)) = E):=by unfold Hid; rw [← HE.out,HD.out,rT c _ hd]; omega
      have HW2:Hid (tU (10 * V + (c - 48)) (((aD s).drop (k + 1)).takeWhile aY) = VT):=by unfold Hid; rw [← HW.out,HD.out,mR0 c _ _ hd]
      clear hd
      go_wp2_with fail
      refine (dL c _).mono ?_
      rw [HG.out]
      rintro e wx ⟨rfl,rfl⟩
      go_wp2
      · rename_i hgt
        go_round
        case rel =>
         refine ⟨k + 1,10 * V + (c - 48),N,true,by omega,by go_num,rfl,rfl,fun q=>(by cases q),fun _=>?_,hN,HW2.out,HE2.out⟩
         cases b with
         | false=>have:=H1.out rfl; omega
         | true=>have:=H2.out rfl; omega
        case measure=>simp [intOf]; omega
      rename_i hle
      go_round
      case rel =>
       refine ⟨k + 1,10 * V + (c - 48),10 * N + (c - 48),b,by omega,by go_num,?_,rfl,fun q=>?_,fun q=>?_,by omega,HW2.out,HE2.out⟩
       · congr 1; omega
       · have:=H1.out q; omega
       have:=H2.out q; omega
      case measure=>simp [intOf]; omega
    have HG:Hid (aY c = false):=by simpa [Hid] using hd
    have hkE:k = E:=by rw [← HE.out,HD.out,lY0 c _ HG.out]; omega
    have HVT:Hid (V = VT):=by unfold Hid; rw [← HW.out,HD.out,kO0 c _ _ HG.out]
    clear hd HE HW HD
    subst hkE
    by_cases hs:oS (aD x) = true
    · have hxs:x = ⟨#[]⟩∨x = ⟨#[105,56]⟩∨x = ⟨#[105,51,50]⟩∨x = ⟨#[105,54,52]⟩:=yU x hs
      obtain ⟨T,hT⟩:∃ T,Hid (lL (aD x) = T):=⟨_,rfl⟩
      have HS:=hI hs
      have HT2:Hid (T≤18446744073709551615):=by unfold Hid; rw [← hT.out]; exact tY0 _
      clear hs
      cases b with
      | true =>
       have HNO:Hid (iJ x VT = false):=by
        have:=H2.out rfl
        unfold Hid iJ; rw [HS.out,hT.out]; simp; have h3:=HVT.out; have h4:=HT2.out; omega
       rcases hxs with rfl | rfl | rfl | rfl
       all_goals
        go_wp2_with fail
        refine (dL c _).mono ?_
        rw [HG.out]
        rintro e wx ⟨rfl,rfl⟩
        go_wp2_with fail
        refine (jA s k k F rfl hk h HF.out _).mono ?_
        rintro e wx ⟨rfl,rfl⟩
        go_wp2
        refine eG (g:=w.heap.size) (t:=65) rfl rfl rfl (heap_alloc_new w _) Tryz.underlying65 rfl (by kernel_rfl) ?_
        exact ⟨by rw [← hR.out,kU _ _ _ _ HNO.out]; rfl,(Below.refl _ _).alloc (Nat.le_refl _) _⟩
      | false=>?_
      have HNV:Hid (N = VT):=by unfold Hid; rw [(H1.out rfl).1]; exact HVT.out
      by_cases hle:N≤T
      · have HOK:Hid (iJ x VT = true):=by
         unfold Hid iJ; rw [HS.out,hT.out]; simp; rw [← HNV.out]; exact hle
        rcases hxs with rfl | rfl | rfl | rfl
        all_goals
         go_wp2_with fail
         refine (dL c _).mono ?_
         rw [HG.out]
         rintro e wx ⟨rfl,rfl⟩
         go_wp2_with fail
         refine (jA s k k F rfl hk h HF.out _).mono ?_
         rintro e wx ⟨rfl,rfl⟩
         go_wp2_with fail
         refine (uA _ T hT.out _).mono ?_
         rintro e wx ⟨rfl,rfl⟩
         go_wp2
         refine eG (g:=w.heap.size) (t:=65) rfl rfl rfl (heap_alloc_new w _) Tryz.underlying65 rfl (by kernel_rfl) ?_
         exact ⟨by rw [← hR.out,sH _ _ _ _ HOK.out,← HNV.out]; rfl,(Below.refl _ _).alloc (Nat.le_refl _) _⟩
      have HNO:Hid (iJ x VT = false):=by
       unfold Hid iJ; rw [HS.out,hT.out]; simp; rw [← HNV.out]; omega
      rcases hxs with rfl | rfl | rfl | rfl
      all_goals
       go_wp2_with fail
       refine (dL c _).mono ?_
       rw [HG.out]
       rintro e wx ⟨rfl,rfl⟩
       go_wp2_with fail
       refine (jA s k k F rfl hk h HF.out _).mono ?_
       rintro e wx ⟨rfl,rfl⟩
       go_wp2_with fail
       refine (uA _ T hT.out _).mono ?_
       rintro e wx ⟨rfl,rfl⟩
       go_wp2
       refine eG (g:=w.heap.size) (t:=65) rfl rfl rfl (heap_alloc_new w _) Tryz.underlying65 rfl (by kernel_rfl) ?_
       exact ⟨by rw [← hR.out,kU _ _ _ _ HNO.out]; rfl,(Below.refl _ _).alloc (Nat.le_refl _) _⟩
    have HNO:Hid (iJ x VT = false):=by unfold Hid iJ; simp [hs]
    obtain ⟨q1,q2,q3,q4⟩:=iD0 x (by simpa using hs)
    clear hs
    go_wp2_with fail
    refine (dL c _).mono ?_
    rw [HG.out]
    rintro e wx ⟨rfl,rfl⟩
    go_wp2_with fail
    refine (jA s k k F rfl hk h HF.out _).mono ?_
    rintro e wx ⟨rfl,rfl⟩
    go_wp2
    refine eG (g:=w.heap.size) (t:=65) rfl rfl rfl (heap_alloc_new w _) Tryz.underlying65 rfl (by kernel_rfl) ?_
    exact ⟨by rw [← hR.out,kU _ _ _ _ HNO.out]; rfl,(Below.refl _ _).alloc (Nat.le_refl _) _⟩
  have hks:k = s.size:=by omega
  have hkE:k = E:=by rw [← HE.out,hks,hH]; rfl
  have HVT:Hid (V = VT):=by unfold Hid; rw [← HW.out,hks,hH]; rfl
  clear HE HW hks
  subst hkE
  by_cases hs:oS (aD x) = true
  · have hxs:x = ⟨#[]⟩∨x = ⟨#[105,56]⟩∨x = ⟨#[105,51,50]⟩∨x = ⟨#[105,54,52]⟩:=yU x hs
    obtain ⟨T,hT⟩:∃ T,Hid (lL (aD x) = T):=⟨_,rfl⟩
    have HS:=hI hs
    have HT2:Hid (T≤18446744073709551615):=by unfold Hid; rw [← hT.out]; exact tY0 _
    clear hs
    cases b with
    | true =>
     have HNO:Hid (iJ x VT = false):=by
      have:=H2.out rfl
      unfold Hid iJ; rw [HS.out,hT.out]; simp; have h3:=HVT.out; have h4:=HT2.out; omega
     rcases hxs with rfl | rfl | rfl | rfl
     all_goals
      go_wp2_with fail
      refine (jA s k k F rfl hk h HF.out _).mono ?_
      rintro e wx ⟨rfl,rfl⟩
      go_wp2
      refine eG (g:=w.heap.size) (t:=65) rfl rfl rfl (heap_alloc_new w _) Tryz.underlying65 rfl (by kernel_rfl) ?_
      exact ⟨by rw [← hR.out,kU _ _ _ _ HNO.out]; rfl,(Below.refl _ _).alloc (Nat.le_refl _) _⟩
    | false=>?_
    have HNV:Hid (N = VT):=by unfold Hid; rw [(H1.out rfl).1]; exact HVT.out
    by_cases hle:N≤T
    · have HOK:Hid (iJ x VT = true):=by
       unfold Hid iJ; rw [HS.out,hT.out]; simp; rw [← HNV.out]; exact hle
      rcases hxs with rfl | rfl | rfl | rfl
      all_goals
       go_wp2_with fail
       refine (jA s k k F rfl hk h HF.out _).mono ?_
       rintro e wx ⟨rfl,rfl⟩
       go_wp2_with fail
       refine (uA _ T hT.out _).mono ?_
       rintro e wx ⟨rfl,rfl⟩
       go_wp2
       refine eG (g:=w.heap.size) (t:=65) rfl rfl rfl (heap_alloc_new w _) Tryz.underlying65 rfl (by kernel_rfl) ?_
       exact ⟨by rw [← hR.out,sH _ _ _ _ HOK.out,← HNV.out]; rfl,(Below.refl _ _).alloc (Nat.le_refl _) _⟩
    have HNO:Hid (iJ x VT = false):=by
     unfold Hid iJ; rw [HS.out,hT.out]; simp; rw [← HNV.out]; omega
    rcases hxs with rfl | rfl | rfl | rfl
    all_goals
     go_wp2_with fail
     refine (jA s k k F rfl hk h HF.out _).mono ?_
     rintro e wx ⟨rfl,rfl⟩
     go_wp2_with fail
     refine (uA _ T hT.out _).mono ?_
     rintro e wx ⟨rfl,rfl⟩
     go_wp2
     refine eG (g:=w.heap.size) (t:=65) rfl rfl rfl (heap_alloc_new w _) Tryz.underlying65 rfl (by kernel_rfl) ?_
     exact ⟨by rw [← hR.out,kU _ _ _ _ HNO.out]; rfl,(Below.refl _ _).alloc (Nat.le_refl _) _⟩
  have HNO:Hid (iJ x VT = false):=by unfold Hid iJ; simp [hs]
  obtain ⟨q1,q2,q3,q4⟩:=iD0 x (by simpa using hs)
  clear hs
  go_wp2_with fail
  refine (jA s k k F rfl hk h HF.out _).mono ?_
  rintro e wx ⟨rfl,rfl⟩
  go_wp2
  refine eG (g:=w.heap.size) (t:=65) rfl rfl rfl (heap_alloc_new w _) Tryz.underlying65 rfl (by kernel_rfl) ?_
  exact ⟨by rw [← hR.out,kU _ _ _ _ HNO.out]; rfl,(Below.refl _ _).alloc (Nat.le_refl _) _⟩
theorem lP {k1 k2 k3:IntKind} {a b c a' b' c':Int} (h1:a = a') (h2:b = b') (h3:c = c') :
    Ending.returned (.tuple #[.int k1 a,.int k2 b,.int k3 c]) = .returned (.tuple #[.int k1 a',.int k2 b',.int k3 c']):=by rw [h1,h2,h3]
def jR (r:List Nat):Nat × Nat × Nat:=match jI r with | .ok (b,k)=>(b,k,0) | .error e=>(0,0,e)
theorem vB0 : jR [] = (0,0,31):=rfl
theorem bX0 (c:Nat) (r:List Nat) (h:bM c = true):jR (c :: r) = (0,0,31):=by simp [jR,jI,h]
theorem iJ0 (c:Nat) (r:List Nat) (h:c = 34∨c = 92):jR (c :: r) = (c,2,0):=by rcases h with rfl | rfl <;> rfl
theorem bD1 (r:List Nat):jR (110 :: r) = (10,2,0):=rfl
theorem bJ1 (r:List Nat):jR (116 :: r) = (9,2,0):=rfl
theorem bG1 (r:List Nat):jR (114 :: r) = (13,2,0):=rfl
theorem yJ (c:Nat) (r:List Nat) (h:bM c = false) (h1:¬ c = 34) (h2:¬ c = 92) (h3:¬ c = 110) (h4:¬ c = 116) (h5:¬ c = 114) (h6:¬ c = 120):jR (c :: r) = (0,0,32):=by
 simp [jR,jI,h,h1,h2,h3,h4,h5,h6]
theorem jI0 : bM 120 = false:=rfl
theorem zQ0 : jR [120] = (0,0,31):=rfl
theorem qV0 (d:Nat) (r:List Nat) (h:bM d = true):jR (120 :: d :: r) = (0,0,31):=by simp [jR,jI,h,jI0]
theorem sM0 (d:Nat) (r:List Nat) (h:bM d = false) (hd:dH d = 16):jR (120 :: d :: r) = (0,0,32):=by simp [jR,jI,h,hd,jI0]
theorem sF0 (d:Nat) (h:bM d = false) (hd:¬ dH d = 16):jR [120,d] = (0,0,31):=by simp [jR,jI,h,hd,jI0]
theorem qH0 (d e:Nat) (r:List Nat) (h:bM d = false) (hd:¬ dH d = 16) (he:bM e = true):jR (120 :: d :: e :: r) = (0,0,31):=by simp [jR,jI,h,hd,he,jI0]
theorem nB0 (d e:Nat) (r:List Nat) (h:bM d = false) (hd:¬ dH d = 16) (he:bM e = false) (he2:dH e = 16):jR (120 :: d :: e :: r) = (0,0,32):=by simp [jR,jI,h,hd,he,he2,jI0]
theorem uF0 (d e:Nat) (r:List Nat) (h:bM d = false) (hd:¬ dH d = 16) (he:bM e = false) (he2:¬ dH e = 16):jR (120 :: d :: e :: r) = (16 * dH d + dH e,4,0):=by simp [jR,jI,h,hd,he,he2,jI0]
theorem nZ0 (s:ByteArray) (k B K X:Nat) (h:s.size≤1048576) (kb:k < s.size) (hk:s.size≤k + 1) (HB:Hid ((0:Int) = B)) (HK:Hid ((0:Int) = K)) (HX:Hid ((31:Int) = X)) (w:World) :
    Calls Tryz.prog 141 #[.string s,.int .i64 (k:Int)] w fun e w'=>e = .returned (.tuple #[.int .u8 (B:Int),.int .i64 (K:Int),.int .i64 (X:Int)])∧w = w':=by
 go_enter Tryz.func141,Tryz.ntmps141
 go_wp2_with fail
 refine (pS s _ (k + 1) (by omega) (by omega) h _).mono ?_
 rintro e wx ⟨rfl,rfl⟩
 go_wp2
 go_ret3
 exact ⟨lP HB.out HK.out HX.out,rfl⟩
theorem kQ0 (s:ByteArray) (k B K X:Nat) (h:s.size≤1048576) (hk:k + 1 < s.size) (c:Nat) (hc:(s[k + 1]'hk).toNat = c) (HE:Hid (bM c = true)) (HB:Hid ((0:Int) = B)) (HK:Hid ((0:Int) = K)) (HX:Hid ((31:Int) = X)) (w:World) :
    Calls Tryz.prog 141 #[.string s,.int .i64 (k:Int)] w fun e w'=>e = .returned (.tuple #[.int .u8 (B:Int),.int .i64 (K:Int),.int .i64 (X:Int)])∧w = w':=by
 go_enter Tryz.func141,Tryz.ntmps141
 go_wp2_with fail
 refine (cK s _ (k + 1) c (by omega) hk hc h _).mono ?_
 rw [HE.out]
 rintro e wx ⟨rfl,rfl⟩
 go_wp2
 go_ret3
 exact ⟨lP HB.out HK.out HX.out,rfl⟩
theorem wH0 (s:ByteArray) (k B K X:Nat) (h:s.size≤1048576) (hk:k + 1 < s.size) (hc:(s[k + 1]'hk).toNat = 34) (HE:Hid (bM 34 = false)) (HB:Hid ((34:Int) = B)) (HK:Hid ((2:Int) = K)) (HX:Hid ((0:Int) = X)) (w:World) :
    Calls Tryz.prog 141 #[.string s,.int .i64 (k:Int)] w fun e w'=>e = .returned (.tuple #[.int .u8 (B:Int),.int .i64 (K:Int),.int .i64 (X:Int)])∧w = w':=by
 go_enter Tryz.func141,Tryz.ntmps141
 go_wp2_with fail
 refine (cK s _ (k + 1) 34 (by omega) hk hc h _).mono ?_
 rw [HE.out]
 rintro e wx ⟨rfl,rfl⟩
 go_wp2
 go_ret3
 exact ⟨lP HB.out HK.out HX.out,rfl⟩
theorem vF0 (s:ByteArray) (k B K X:Nat) (h:s.size≤1048576) (hk:k + 1 < s.size) (hc:(s[k + 1]'hk).toNat = 92) (HE:Hid (bM 92 = false)) (HB:Hid ((92:Int) = B)) (HK:Hid ((2:Int) = K)) (HX:Hid ((0:Int) = X)) (w:World) :
    Calls Tryz.prog 141 #[.string s,.int .i64 (k:Int)] w fun e w'=>e = .returned (.tuple #[.int .u8 (B:Int),.int .i64 (K:Int),.int .i64 (X:Int)])∧w = w':=by
 go_enter Tryz.func141,Tryz.ntmps141
 go_wp2_with fail
 refine (cK s _ (k + 1) 92 (by omega) hk hc h _).mono ?_
 rw [HE.out]
 rintro e wx ⟨rfl,rfl⟩
 go_wp2
 go_ret3
 exact ⟨lP HB.out HK.out HX.out,rfl⟩
theorem pE0 (s:ByteArray) (k B K X:Nat) (h:s.size≤1048576) (hk:k + 1 < s.size) (hc:(s[k + 1]'hk).toNat = 110) (HE:Hid (bM 110 = false)) (HB:Hid ((10:Int) = B)) (HK:Hid ((2:Int) = K)) (HX:Hid ((0:Int) = X)) (w:World) :
    Calls Tryz.prog 141 #[.string s,.int .i64 (k:Int)] w fun e w'=>e = .returned (.tuple #[.int .u8 (B:Int),.int .i64 (K:Int),.int .i64 (X:Int)])∧w = w':=by
 go_enter Tryz.func141,Tryz.ntmps141
 go_wp2_with fail
 refine (cK s _ (k + 1) 110 (by omega) hk hc h _).mono ?_
 rw [HE.out]
 rintro e wx ⟨rfl,rfl⟩
 go_wp2
 go_ret3
 exact ⟨lP HB.out HK.out HX.out,rfl⟩
theorem sU0 (s:ByteArray) (k B K X:Nat) (h:s.size≤1048576) (hk:k + 1 < s.size) (hc:(s[k + 1]'hk).toNat = 116) (HE:Hid (bM 116 = false)) (HB:Hid ((9:Int) = B)) (HK:Hid ((2:Int) = K)) (HX:Hid ((0:Int) = X)) (w:World) :
    Calls Tryz.prog 141 #[.string s,.int .i64 (k:Int)] w fun e w'=>e = .returned (.tuple #[.int .u8 (B:Int),.int .i64 (K:Int),.int .i64 (X:Int)])∧w = w':=by
 go_enter Tryz.func141,Tryz.ntmps141
 go_wp2_with fail
 refine (cK s _ (k + 1) 116 (by omega) hk hc h _).mono ?_
 rw [HE.out]
 rintro e wx ⟨rfl,rfl⟩
 go_wp2
 go_ret3
 exact ⟨lP HB.out HK.out HX.out,rfl⟩
theorem nV0 (s:ByteArray) (k B K X:Nat) (h:s.size≤1048576) (hk:k + 1 < s.size) (hc:(s[k + 1]'hk).toNat = 114) (HE:Hid (bM 114 = false)) (HB:Hid ((13:Int) = B)) (HK:Hid ((2:Int) = K)) (HX:Hid ((0:Int) = X)) (w:World) :
    Calls Tryz.prog 141 #[.string s,.int .i64 (k:Int)] w fun e w'=>e = .returned (.tuple #[.int .u8 (B:Int),.int .i64 (K:Int),.int .i64 (X:Int)])∧w = w':=by
 go_enter Tryz.func141,Tryz.ntmps141
 go_wp2_with fail
 refine (cK s _ (k + 1) 114 (by omega) hk hc h _).mono ?_
 rw [HE.out]
 rintro e wx ⟨rfl,rfl⟩
 go_wp2
 go_ret3
 exact ⟨lP HB.out HK.out HX.out,rfl⟩
theorem gH0 (s:ByteArray) (k B K X:Nat) (h:s.size≤1048576) (hk:k + 1 < s.size) (c:Nat) (hc:(s[k + 1]'hk).toNat = c) (HE:Hid (bM c = false)) (e1:((c:Int) == 34) = false) (e2:((c:Int) == 92) = false) (e3:((c:Int) == 110) = false) (e4:((c:Int) == 116) = false) (e5:((c:Int) == 114) = false) (e6:((c:Int) == 120) = false) (HB:Hid ((0:Int) = B)) (HK:Hid ((0:Int) = K)) (HX:Hid ((32:Int) = X)) (w:World) :
    Calls Tryz.prog 141 #[.string s,.int .i64 (k:Int)] w fun e w'=>e = .returned (.tuple #[.int .u8 (B:Int),.int .i64 (K:Int),.int .i64 (X:Int)])∧w = w':=by
 go_enter Tryz.func141,Tryz.ntmps141
 go_wp2_with fail
 refine (cK s _ (k + 1) c (by omega) hk hc h _).mono ?_
 rw [HE.out]
 rintro e wx ⟨rfl,rfl⟩
 go_wp2
 go_ret3
 exact ⟨lP HB.out HK.out HX.out,rfl⟩
def sH0 (n i:Value):Prop:=n = .int .i64 0∧i = .int .i64 2
def nP0 (v:Int) (n i:Value):Prop:=(n = .int .i64 0∧i = .int .i64 2)∨(n = .int .i64 v∧i = .int .i64 3)
def aF1 (v u:Int) (n i:Value):Prop:=(n = .int .i64 0∧i = .int .i64 2)∨(n = .int .i64 v∧i = .int .i64 3)∨(n = .int .i64 (16 * v + u)∧i = .int .i64 4)
theorem vW0 (s:ByteArray) (k B K X:Nat) (h:s.size≤1048576) (hk:k + 1 < s.size) (hc:(s[k + 1]'hk).toNat = 120) (HE:Hid (bM 120 = false)) (h2:s.size≤k + 2) (HB:Hid ((0:Int) = B)) (HK:Hid ((0:Int) = K)) (HX:Hid ((31:Int) = X)) (w:World) :
    Calls Tryz.prog 141 #[.string s,.int .i64 (k:Int)] w fun e w'=>e = .returned (.tuple #[.int .u8 (B:Int),.int .i64 (K:Int),.int .i64 (X:Int)])∧w = w':=by
 go_enter Tryz.func141,Tryz.ntmps141
 go_wp2_with fail
 refine (cK s _ (k + 1) 120 (by omega) hk hc h _).mono ?_
 rw [HE.out]
 rintro e wx ⟨rfl,rfl⟩
 go_wp2_with fail
 go_loop [7,8] (fun n i=>sH0 n i) (fun _ i=>4 - (intOf i).toNat)
 case atStart=>exact ⟨rfl,rfl⟩
 case round =>
  obtain ⟨rfl,rfl⟩:=hrel
  go_wp2_with fail
  refine (pS s _ (k + 2) (by omega) (by omega) h _).mono ?_
  rintro e wx ⟨rfl,rfl⟩
  go_wp2
  go_ret3
  exact ⟨lP HB.out HK.out HX.out,rfl⟩
theorem xT0 (s:ByteArray) (k B K X:Nat) (h:s.size≤1048576) (hk:k + 1 < s.size) (hc:(s[k + 1]'hk).toNat = 120) (HE:Hid (bM 120 = false)) (hk2:k + 2 < s.size) (d:Nat) (hd:(s[k + 2]'hk2).toNat = d) (HD:Hid (bM d = true)) (HB:Hid ((0:Int) = B)) (HK:Hid ((0:Int) = K)) (HX:Hid ((31:Int) = X)) (w:World) :
    Calls Tryz.prog 141 #[.string s,.int .i64 (k:Int)] w fun e w'=>e = .returned (.tuple #[.int .u8 (B:Int),.int .i64 (K:Int),.int .i64 (X:Int)])∧w = w':=by
 go_enter Tryz.func141,Tryz.ntmps141
 go_wp2_with fail
 refine (cK s _ (k + 1) 120 (by omega) hk hc h _).mono ?_
 rw [HE.out]
 rintro e wx ⟨rfl,rfl⟩
 go_wp2_with fail
 go_loop [7,8] (fun n i=>sH0 n i) (fun _ i=>4 - (intOf i).toNat)
 case atStart=>exact ⟨rfl,rfl⟩
 case round =>
  obtain ⟨rfl,rfl⟩:=hrel
  go_wp2_with fail
  refine (cK s _ (k + 2) d (by omega) hk2 hd h _).mono ?_
  rw [HD.out]
  rintro e wx ⟨rfl,rfl⟩
  go_wp2
  go_ret3
  exact ⟨lP HB.out HK.out HX.out,rfl⟩
theorem vI0 (s:ByteArray) (k B K X:Nat) (h:s.size≤1048576) (hk:k + 1 < s.size) (hc:(s[k + 1]'hk).toNat = 120) (HE:Hid (bM 120 = false)) (hk2:k + 2 < s.size) (d:Nat) (hd:(s[k + 2]'hk2).toNat = d) (HD:Hid (bM d = false)) (HV:Hid (mZ d = -1)) (HB:Hid ((0:Int) = B)) (HK:Hid ((0:Int) = K)) (HX:Hid ((32:Int) = X)) (w:World) :
    Calls Tryz.prog 141 #[.string s,.int .i64 (k:Int)] w fun e w'=>e = .returned (.tuple #[.int .u8 (B:Int),.int .i64 (K:Int),.int .i64 (X:Int)])∧w = w':=by
 go_enter Tryz.func141,Tryz.ntmps141
 go_wp2_with fail
 refine (cK s _ (k + 1) 120 (by omega) hk hc h _).mono ?_
 rw [HE.out]
 rintro e wx ⟨rfl,rfl⟩
 go_wp2_with fail
 go_loop [7,8] (fun n i=>sH0 n i) (fun _ i=>4 - (intOf i).toNat)
 case atStart=>exact ⟨rfl,rfl⟩
 case round =>
  obtain ⟨rfl,rfl⟩:=hrel
  go_wp2_with fail
  refine (cK s _ (k + 2) d (by omega) hk2 hd h _).mono ?_
  rw [HD.out]
  rintro e wx ⟨rfl,rfl⟩
  go_wp2_with fail
  refine (oJ d (-1) HV.out (by have h9:=UInt8.toNat_lt (s[k + 2]'hk2); omega) _).mono ?_
  rintro e wx ⟨rfl,rfl⟩
  go_wp2
  go_ret3
  exact ⟨lP HB.out HK.out HX.out,rfl⟩
theorem vN0 (s:ByteArray) (k B K X:Nat) (h:s.size≤1048576) (hk:k + 1 < s.size) (hc:(s[k + 1]'hk).toNat = 120) (HE:Hid (bM 120 = false)) (hk2:k + 2 < s.size) (d:Nat) (hd:(s[k + 2]'hk2).toNat = d) (HD:Hid (bM d = false)) (v:Int) (HV:Hid (mZ d = v)) (v0:0≤v) (v16:v < 16) (h3:s.size≤k + 3) (HB:Hid ((0:Int) = B)) (HK:Hid ((0:Int) = K)) (HX:Hid ((31:Int) = X)) (w:World) :
    Calls Tryz.prog 141 #[.string s,.int .i64 (k:Int)] w fun e w'=>e = .returned (.tuple #[.int .u8 (B:Int),.int .i64 (K:Int),.int .i64 (X:Int)])∧w = w':=by
 go_enter Tryz.func141,Tryz.ntmps141
 go_wp2_with fail
 refine (cK s _ (k + 1) 120 (by omega) hk hc h _).mono ?_
 rw [HE.out]
 rintro e wx ⟨rfl,rfl⟩
 go_wp2_with fail
 go_loop [7,8] (fun n i=>nP0 v n i) (fun _ i=>4 - (intOf i).toNat)
 case atStart=>exact .inl ⟨rfl,rfl⟩
 case round =>
  rcases hrel with hr | hr
  · obtain ⟨rfl,rfl⟩:=hr
    go_wp2_with fail
    refine (cK s _ (k + 2) d (by omega) hk2 hd h _).mono ?_
    rw [HD.out]
    rintro e wx ⟨rfl,rfl⟩
    go_wp2_with fail
    refine (oJ d v HV.out (by have h9:=UInt8.toNat_lt (s[k + 2]'hk2); omega) _).mono ?_
    rintro e wx ⟨rfl,rfl⟩
    go_wp2
    go_round
    case rel=>exact .inr ⟨rfl,rfl⟩
    case measure=>simp [intOf]
  obtain ⟨rfl,rfl⟩:=hr
  go_wp2_with fail
  refine (pS s _ (k + 3) (by omega) (by omega) h _).mono ?_
  rintro e wx ⟨rfl,rfl⟩
  go_wp2
  go_ret3
  exact ⟨lP HB.out HK.out HX.out,rfl⟩
theorem wL0 (s:ByteArray) (k B K X:Nat) (h:s.size≤1048576) (hk:k + 1 < s.size) (hc:(s[k + 1]'hk).toNat = 120) (HE:Hid (bM 120 = false)) (hk2:k + 2 < s.size) (d:Nat) (hd:(s[k + 2]'hk2).toNat = d) (HD:Hid (bM d = false)) (v:Int) (HV:Hid (mZ d = v)) (v0:0≤v) (v16:v < 16) (hk3:k + 3 < s.size) (x:Nat) (hx:(s[k + 3]'hk3).toNat = x) (HX2:Hid (bM x = true)) (HB:Hid ((0:Int) = B)) (HK:Hid ((0:Int) = K)) (HX:Hid ((31:Int) = X)) (w:World) :
    Calls Tryz.prog 141 #[.string s,.int .i64 (k:Int)] w fun e w'=>e = .returned (.tuple #[.int .u8 (B:Int),.int .i64 (K:Int),.int .i64 (X:Int)])∧w = w':=by
 go_enter Tryz.func141,Tryz.ntmps141
 go_wp2_with fail
 refine (cK s _ (k + 1) 120 (by omega) hk hc h _).mono ?_
 rw [HE.out]
 rintro e wx ⟨rfl,rfl⟩
 go_wp2_with fail
 go_loop [7,8] (fun n i=>nP0 v n i) (fun _ i=>4 - (intOf i).toNat)
 case atStart=>exact .inl ⟨rfl,rfl⟩
 case round =>
  rcases hrel with hr | hr
  · obtain ⟨rfl,rfl⟩:=hr
    go_wp2_with fail
    refine (cK s _ (k + 2) d (by omega) hk2 hd h _).mono ?_
    rw [HD.out]
    rintro e wx ⟨rfl,rfl⟩
    go_wp2_with fail
    refine (oJ d v HV.out (by have h9:=UInt8.toNat_lt (s[k + 2]'hk2); omega) _).mono ?_
    rintro e wx ⟨rfl,rfl⟩
    go_wp2
    go_round
    case rel=>exact .inr ⟨rfl,rfl⟩
    case measure=>simp [intOf]
  obtain ⟨rfl,rfl⟩:=hr
  go_wp2_with fail
  refine (cK s _ (k + 3) x (by omega) hk3 hx h _).mono ?_
  rw [HX2.out]
  rintro e wx ⟨rfl,rfl⟩
  go_wp2
  go_ret3
  exact ⟨lP HB.out HK.out HX.out,rfl⟩
theorem yD0 (s:ByteArray) (k B K X:Nat) (h:s.size≤1048576) (hk:k + 1 < s.size) (hc:(s[k + 1]'hk).toNat = 120) (HE:Hid (bM 120 = false)) (hk2:k + 2 < s.size) (d:Nat) (hd:(s[k + 2]'hk2).toNat = d) (HD:Hid (bM d = false)) (v:Int) (HV:Hid (mZ d = v)) (v0:0≤v) (v16:v < 16) (hk3:k + 3 < s.size) (x:Nat) (hx:(s[k + 3]'hk3).toNat = x) (HX2:Hid (bM x = false)) (HU:Hid (mZ x = -1)) (HB:Hid ((0:Int) = B)) (HK:Hid ((0:Int) = K)) (HX:Hid ((32:Int) = X)) (w:World) :
    Calls Tryz.prog 141 #[.string s,.int .i64 (k:Int)] w fun e w'=>e = .returned (.tuple #[.int .u8 (B:Int),.int .i64 (K:Int),.int .i64 (X:Int)])∧w = w':=by
 go_enter Tryz.func141,Tryz.ntmps141
 go_wp2_with fail
 refine (cK s _ (k + 1) 120 (by omega) hk hc h _).mono ?_
 rw [HE.out]
 rintro e wx ⟨rfl,rfl⟩
 go_wp2_with fail
 go_loop [7,8] (fun n i=>nP0 v n i) (fun _ i=>4 - (intOf i).toNat)
 case atStart=>exact .inl ⟨rfl,rfl⟩
 case round =>
  rcases hrel with hr | hr
  · obtain ⟨rfl,rfl⟩:=hr
    go_wp2_with fail
    refine (cK s _ (k + 2) d (by omega) hk2 hd h _).mono ?_
    rw [HD.out]
    rintro e wx ⟨rfl,rfl⟩
    go_wp2_with fail
    refine (oJ d v HV.out (by have h9:=UInt8.toNat_lt (s[k + 2]'hk2); omega) _).mono ?_
    rintro e wx ⟨rfl,rfl⟩
    go_wp2
    go_round
    case rel=>exact .inr ⟨rfl,rfl⟩
    case measure=>simp [intOf]
  obtain ⟨rfl,rfl⟩:=hr
  go_wp2_with fail
  refine (cK s _ (k + 3) x (by omega) hk3 hx h _).mono ?_
  rw [HX2.out]
  rintro e wx ⟨rfl,rfl⟩
  go_wp2_with fail
  refine (oJ x (-1) HU.out (by have h9:=UInt8.toNat_lt (s[k + 3]'hk3); omega) _).mono ?_
  rintro e wx ⟨rfl,rfl⟩
  go_wp2
  go_ret3
  exact ⟨lP HB.out HK.out HX.out,rfl⟩
theorem xB0 (s:ByteArray) (k B K X:Nat) (h:s.size≤1048576) (hk:k + 1 < s.size) (hc:(s[k + 1]'hk).toNat = 120) (HE:Hid (bM 120 = false)) (hk2:k + 2 < s.size) (d:Nat) (hd:(s[k + 2]'hk2).toNat = d) (HD:Hid (bM d = false)) (v:Int) (HV:Hid (mZ d = v)) (v0:0≤v) (v16:v < 16) (hk3:k + 3 < s.size) (x:Nat) (hx:(s[k + 3]'hk3).toNat = x) (HX2:Hid (bM x = false)) (u:Int) (HU:Hid (mZ x = u)) (u0:0≤u) (u16:u < 16) (HB:Hid ((16 * v + u:Int) = B)) (HK:Hid ((4:Int) = K)) (HX:Hid ((0:Int) = X)) (w:World) :
    Calls Tryz.prog 141 #[.string s,.int .i64 (k:Int)] w fun e w'=>e = .returned (.tuple #[.int .u8 (B:Int),.int .i64 (K:Int),.int .i64 (X:Int)])∧w = w':=by
 go_enter Tryz.func141,Tryz.ntmps141
 go_wp2_with fail
 refine (cK s _ (k + 1) 120 (by omega) hk hc h _).mono ?_
 rw [HE.out]
 rintro e wx ⟨rfl,rfl⟩
 go_wp2_with fail
 go_loop [7,8] (fun n i=>aF1 v u n i) (fun _ i=>4 - (intOf i).toNat)
 case atStart=>exact .inl ⟨rfl,rfl⟩
 case round =>
  rcases hrel with hr | hr | hr
  · obtain ⟨rfl,rfl⟩:=hr
    go_wp2_with fail
    refine (cK s _ (k + 2) d (by omega) hk2 hd h _).mono ?_
    rw [HD.out]
    rintro e wx ⟨rfl,rfl⟩
    go_wp2_with fail
    refine (oJ d v HV.out (by have h9:=UInt8.toNat_lt (s[k + 2]'hk2); omega) _).mono ?_
    rintro e wx ⟨rfl,rfl⟩
    go_wp2
    go_round
    case rel=>exact .inr (.inl ⟨rfl,rfl⟩)
    case measure=>simp [intOf]
  · obtain ⟨rfl,rfl⟩:=hr
    go_wp2_with fail
    refine (cK s _ (k + 3) x (by omega) hk3 hx h _).mono ?_
    rw [HX2.out]
    rintro e wx ⟨rfl,rfl⟩
    go_wp2_with fail
    refine (oJ x u HU.out (by have h9:=UInt8.toNat_lt (s[k + 3]'hk3); omega) _).mono ?_
    rintro e wx ⟨rfl,rfl⟩
    go_wp2
    go_round
    case rel=>exact .inr (.inr ⟨rfl,rfl⟩)
    case measure=>simp [intOf]
  obtain ⟨rfl,rfl⟩:=hr
  have hz:16 * v + u≤255:=by omega
  have hz0:0≤16 * v + u:=by omega
  go_wp2
  go_ret3
  exact ⟨lP HB.out HK.out HX.out,rfl⟩
theorem rO (c:Nat) (h:¬ dH c = 16):mZ c = (dH c:Int):=by unfold mZ; rw [if_neg h]
theorem iF0 (c:Nat) (h:dH c = 16):mZ c = -1:=by unfold mZ; rw [if_pos h]
theorem zE (s:ByteArray) (y:Int) (k B K X:Nat) (hy:y = k) (kb:k < s.size) (h:s.size≤1048576) (hR:jR ((aD s).drop (k + 1)) = (B,K,X)) (w:World) :
    Calls Tryz.prog 141 #[.string s,.int .i64 y] w fun e w'=>e = .returned (.tuple #[.int .u8 (B:Int),.int .i64 (K:Int),.int .i64 (X:Int)])∧w = w':=by
 subst hy
 by_cases h1:k + 1 < s.size
 · obtain ⟨c,hc⟩:=iQ ((s[k + 1]'h1).toNat)
   rw [bY s (k + 1) h1,hc] at hR
   by_cases he:bM c = true
   · rw [bX0 c _ he] at hR; simp only [Prod.mk.injEq] at hR; obtain ⟨rfl,rfl,rfl⟩:=hR
     exact kQ0 s k _ _ _ h h1 c hc he rfl rfl rfl w
   have he':bM c = false:=by simpa using he
   by_cases a1:c = 34
   · subst a1; rw [iJ0 34 _ (.inl rfl)] at hR; simp only [Prod.mk.injEq] at hR; obtain ⟨rfl,rfl,rfl⟩:=hR
     exact wH0 s k _ _ _ h h1 hc he' rfl rfl rfl w
   by_cases a2:c = 92
   · subst a2; rw [iJ0 92 _ (.inr rfl)] at hR; simp only [Prod.mk.injEq] at hR; obtain ⟨rfl,rfl,rfl⟩:=hR
     exact vF0 s k _ _ _ h h1 hc he' rfl rfl rfl w
   by_cases a3:c = 110
   · subst a3; rw [bD1] at hR; simp only [Prod.mk.injEq] at hR; obtain ⟨rfl,rfl,rfl⟩:=hR
     exact pE0 s k _ _ _ h h1 hc he' rfl rfl rfl w
   by_cases a4:c = 116
   · subst a4; rw [bJ1] at hR; simp only [Prod.mk.injEq] at hR; obtain ⟨rfl,rfl,rfl⟩:=hR
     exact sU0 s k _ _ _ h h1 hc he' rfl rfl rfl w
   by_cases a5:c = 114
   · subst a5; rw [bG1] at hR; simp only [Prod.mk.injEq] at hR; obtain ⟨rfl,rfl,rfl⟩:=hR
     exact nV0 s k _ _ _ h h1 hc he' rfl rfl rfl w
   by_cases a6:c = 120
   · subst a6
     by_cases h2:k + 2 < s.size
     · obtain ⟨d,hd⟩:=iQ ((s[k + 2]'h2).toNat)
       rw [bY s (k + 2) h2,hd] at hR
       by_cases hed:bM d = true
       · rw [qV0 d _ hed] at hR; simp only [Prod.mk.injEq] at hR; obtain ⟨rfl,rfl,rfl⟩:=hR
         exact xT0 s k _ _ _ h h1 hc he' h2 d hd hed rfl rfl rfl w
       have hed':bM d = false:=by simpa using hed
       by_cases hhd:dH d = 16
       · rw [sM0 d _ hed' hhd] at hR; simp only [Prod.mk.injEq] at hR; obtain ⟨rfl,rfl,rfl⟩:=hR
         exact vI0 s k _ _ _ h h1 hc he' h2 d hd hed' (iF0 d hhd) rfl rfl rfl w
       have ld:=pW d
       by_cases h3:k + 3 < s.size
       · obtain ⟨x,hx⟩:=iQ ((s[k + 3]'h3).toNat)
         rw [bY s (k + 3) h3,hx] at hR
         by_cases hex:bM x = true
         · rw [qH0 d x _ hed' hhd hex] at hR; simp only [Prod.mk.injEq] at hR; obtain ⟨rfl,rfl,rfl⟩:=hR
           exact wL0 s k _ _ _ h h1 hc he' h2 d hd hed' _ (rO d hhd) (by omega) (by omega) h3 x hx hex rfl rfl rfl w
         have hex':bM x = false:=by simpa using hex
         by_cases hhx:dH x = 16
         · rw [nB0 d x _ hed' hhd hex' hhx] at hR; simp only [Prod.mk.injEq] at hR; obtain ⟨rfl,rfl,rfl⟩:=hR
           exact yD0 s k _ _ _ h h1 hc he' h2 d hd hed' _ (rO d hhd) (by omega) (by omega) h3 x hx hex' (iF0 x hhx) rfl rfl rfl w
         have lx:=pW x
         rw [uF0 d x _ hed' hhd hex' hhx] at hR; simp only [Prod.mk.injEq] at hR; obtain ⟨rfl,rfl,rfl⟩:=hR
         exact xB0 s k _ _ _ h h1 hc he' h2 d hd hed' _ (rO d hhd) (by omega) (by omega) h3 x hx hex' _ (rO x hhx) (by omega) (by omega) (by unfold Hid; omega) rfl rfl w
       rw [show (aD s).drop (k + 2 + 1) = [] from List.drop_eq_nil_of_le (by rw [aK]; omega),sF0 d hed' hhd] at hR; simp only [Prod.mk.injEq] at hR; obtain ⟨rfl,rfl,rfl⟩:=hR
       exact vN0 s k _ _ _ h h1 hc he' h2 d hd hed' _ (rO d hhd) (by omega) (by omega) (by omega) rfl rfl rfl w
     rw [show (aD s).drop (k + 1 + 1) = [] from List.drop_eq_nil_of_le (by rw [aK]; omega),zQ0] at hR; simp only [Prod.mk.injEq] at hR; obtain ⟨rfl,rfl,rfl⟩:=hR
     exact vW0 s k _ _ _ h h1 hc he' (by omega) rfl rfl rfl w
   rw [yJ c _ he' a1 a2 a3 a4 a5 a6] at hR; simp only [Prod.mk.injEq] at hR; obtain ⟨rfl,rfl,rfl⟩:=hR
   exact gH0 s k _ _ _ h h1 c hc he' (by simp; omega) (by simp; omega) (by simp; omega) (by simp; omega) (by simp; omega) (by simp; omega) rfl rfl rfl w
 rw [show (aD s).drop (k + 1) = [] from List.drop_eq_nil_of_le (by rw [aK]; omega),vB0] at hR; simp only [Prod.mk.injEq] at hR; obtain ⟨rfl,rfl,rfl⟩:=hR
 exact nZ0 s k _ _ _ h kb (by omega) rfl rfl rfl w
def qF (xs:List Nat):List Value:=xs.map fun (c:Nat)=>Value.int .u8 (c:Int)
theorem tD (xs:List Nat):(qF xs).length = xs.length:=by simp [qF]
theorem cK0 (xs ys:List Nat):qF (xs ++ ys) = qF xs ++ qF ys:=by simp [qF]
theorem aM1 : (Tryz.prog.info? 5).map (fun i=>(i.zero,i.size,i.bytes)) = some (some (.int .u8 0),1,1):=by kernel_rfl
theorem dS {t:TypeId} {z:Option Value} {s b:Nat} (h:(Tryz.prog.info? t).map (fun i=>(i.zero,i.size,i.bytes)) = some (z,s,b)):∃ i,Tryz.prog.info? t = some i∧i.zero = z∧i.size = s∧i.bytes = b:=by
 cases hi:Tryz.prog.info? t with
 | none=>rw [hi] at h; simp at h
 | some i=>rw [hi] at h; simp at h; exact ⟨i,rfl,h.1,h.2.1,h.2.2⟩
theorem pH {w:World} {ops:Array Oper} {rest:List Oper} {o:Oper} {a:Act} {Q:Exit→Act→World→Prop} (hgd:o.guard = none) (s x:Operand)
    (ho:o.op = .call { callee:=.builtin .append,args:=#[s,x],argTypes:=#[122,122] })
    (base:Nat) (v:Value) (n:Nat) (xs:List Nat) (hs:a.eval s = v) (hown:w.ownsRow base 5 1 v n (qF xs)) (z:Int) (c:Nat) (hz:z = c)
    (hx:a.eval x = .slice (some ⟨w.heap.size,0,none⟩) 1 1)
    (h63:n + 1≤140737488355328) (hbase:base≤w.heap.size)
    (h:∀ v' w',w'.ownsRow base 5 1 v' (n + 1) (qF (xs ++ [c]))→Below base w w'→wpList Tryz.prog ops Q rest (a.put o.dst v') w') :
    wpList Tryz.prog ops Q (o :: rest) a (w.alloc (.cells #[.int .u8 z] 5)):=by
 subst hz
 obtain ⟨i8,hi,hz0,hz1,hz2⟩:=dS aM1
 have hown2:=hown.alloc (.cells #[.int .u8 (c:Int)] 5)
 have hsz:w.heap.size≤(w.alloc (.cells #[.int .u8 (c:Int)] 5)).heap.size:=by show _≤(w.heap.push _).size; rw [Array.size_push]; omega
 have hbase2:base≤(w.alloc (.cells #[.int .u8 (c:Int)] 5)).heap.size:=Nat.le_trans hbase hsz
 refine wpList_append_own _ hgd s x 122 ho base 5 i8 (.int .u8 0) 1 1 Tryz.underlying122 hi hz0 hz1 hz2 rfl (by omega) v n (qF xs) hs hown2 ⟨w.heap.size,0,none⟩ 1 1 (qF [c]) hx (by rw [tD]; rfl) ?_ ?_ (by unfold maxLen; omega) (by omega) hbase2 ?_
 · intro j u hu
   have hj:j = 0:=by
    by_cases hj:j = 0
    · exact hj
    rw [List.getElem?_eq_none (by rw [tD]; simp; omega)] at hu; cases hu
   subst hj
   rw [← hu]
   exact cell_of_row _ w.heap.size 0 _ 5 _ (heap_alloc_new w _)
 · intro u hu
   simp [qF] at hu; subst hu; rfl
 intro v' w' h1 h2 _
 rw [← cK0] at h1
 exact h v' w' h1 (((Below.refl _ _).alloc hbase _).grown h2 hbase2 fun k hk=>(hown.lt k hk).1)
theorem gA (w:World) (g i:Nat) (cs:Array Value) (t:TypeId) (fr:Nat × Nat) (b:Value) (h:w.heap[g]? = some (.cells cs t fr)) :
    (w.setCell ⟨g,i,none⟩ b).heap[g]? = some (.cells (cs.setIfInBounds i b) t fr):=by
 simp [World.setCell,Array.getElem?_modify,h]
theorem eD (w:World) (g:Nat) (a0 a1 a2 a3 a4 b0 b1 b2 b3 b4:Value) (t:TypeId) (fr:Nat × Nat) (h:w.heap[g]? = some (.cells #[a0,a1,a2,a3,a4] t fr)) :
    (((((w.setCell ⟨g,0,none⟩ b0).setCell ⟨g,1,none⟩ b1).setCell ⟨g,2,none⟩ b2).setCell ⟨g,3,none⟩ b3).setCell ⟨g,4,none⟩ b4).heap[g]? = some (.cells #[b0,b1,b2,b3,b4] t fr):=by
 have h0:=gA w g 0 _ t fr b0 h
 have h1:=gA _ g 1 _ t fr b1 h0
 have h2:=gA _ g 2 _ t fr b2 h1
 have h3:=gA _ g 3 _ t fr b3 h2
 have h4:=gA _ g 4 _ t fr b4 h3
 rw [h4]
 rfl
theorem cA {w0 w:World} {g B:Nat} {b0 b1 b2 b3 b4:Value} (h:Below B w0 w) (hg:B≤g) :
    Below B w0 (((((w.setCell ⟨g,0,none⟩ b0).setCell ⟨g,1,none⟩ b1).setCell ⟨g,2,none⟩ b2).setCell ⟨g,3,none⟩ b3).setCell ⟨g,4,none⟩ b4) :=
 ((((h.setCell hg _).setCell hg _).setCell hg _).setCell hg _).setCell hg _
def bJ (xs:List Nat):ByteArray:=strOfNums (xs.map fun (c:Nat)=>(c:Int))
theorem rP0 (xs:List Nat) (i:Nat) (h:i < xs.length):(qF xs)[i]? = some (.int .u8 ((xs.getD i 0:Nat):Int)):=by
 simp [qF,List.getD,h]
theorem aO0 {w:World} {B:Nat} {v:Value} {xs:List Nat} (own:w.ownsRow B 5 1 v xs.length (qF xs)) :
    (convert 122 9 v).run Tryz.prog w = .ok (.string (bJ xs)) w:=by
 have own':=own
 rcases own.2 with ⟨rfl,h0⟩ | ⟨g,cap,cur,rfl,hb,hg,hle,hm,hs,ht⟩
 · have hx:xs = []:=List.eq_nil_of_length_eq_zero h0
   subst hx
   exact run_convert_bytes_nil w 122 5 Tryz.underlying122 Tryz.underlying5 0 0 9 Tryz.underlying9
 refine run_convert_bytes_arg w 122 5 Tryz.underlying122 Tryz.underlying5 g 0 _ cap (xs.map fun (c:Nat)=>(c:Int)) (by simp) (fun i hi=>?_) 9 Tryz.underlying9
 rw [Nat.zero_add,own'.cellAt i (by omega),rP0 xs i hi]
 simp [List.getD,hi]
theorem gK (xs:List Nat) (h:∀ c ∈ xs,c < 256):aD (bJ xs) = xs:=by
 unfold aD bJ
 rw [strOfNums_data,List.map_map,List.map_map]
 conv=>rhs; rw [← List.map_id xs]
 apply List.map_congr_left
 intro c hc
 have:=h c hc
 simp
 omega
def jQ : List ByteArray:=[⟨#[60,60]⟩,⟨#[62,62]⟩,⟨#[61,61]⟩,⟨#[33,61]⟩,⟨#[60,61]⟩,⟨#[62,61]⟩,⟨#[38,38]⟩,⟨#[124,124]⟩,⟨#[40]⟩,⟨#[41]⟩,⟨#[123]⟩,⟨#[125]⟩,⟨#[91]⟩,⟨#[93]⟩,⟨#[44]⟩,⟨#[59]⟩,⟨#[58]⟩,⟨#[46]⟩,⟨#[43]⟩,⟨#[45]⟩,⟨#[42]⟩,⟨#[47]⟩,⟨#[37]⟩,⟨#[38]⟩,⟨#[124]⟩,⟨#[94]⟩,⟨#[126]⟩,⟨#[33]⟩,⟨#[60]⟩,⟨#[62]⟩,⟨#[61]⟩]
def tK : Array Value:=(jQ.map Value.string).toArray
theorem yC : jQ.map aD = fY:=rfl
theorem dM0 (j:Nat) (h:j < 31):tK[j]? = some (.string (jQ.getD j ⟨#[]⟩)):=by
 have h2:j < jQ.length:=h
 unfold tK
 rw [List.getElem?_toArray,List.getElem?_map,List.getElem?_eq_getElem h2,List.getD_eq_getElem?_getD,List.getElem?_eq_getElem h2]
 rfl
theorem fK0 (w:World):Calls Tryz.prog 117 #[] w fun e w'=>e = .returned (.slice (some ⟨w.heap.size,0,none⟩) 31 31)∧w' = w.alloc (.cells tK 9):=by
 go_enter Tryz.func117,Tryz.ntmps117
 go_wp2
 go_ret
 exact ⟨rfl,rfl⟩
def jX (n:Nat) (outs:List Nat) (x:Except (Option Nat × Nat) (List Nat × Nat)):Except (Option Nat × Nat) (List Nat × Nat) :=
 match x with
 | .ok (o,m)=>.ok (outs ++ o,m + n)
 | .error (some q,e)=>.error (some (q + n),e)
 | .error (none,e)=>.error (none,e)
theorem tL (x:Except (Option Nat × Nat) (List Nat × Nat)):jX 0 [] x = x:=by
 match x with
 | .ok (o,m)=>rfl
 | .error (some q,e)=>rfl
 | .error (none,e)=>rfl
theorem oL (n m:Nat) (o o':List Nat) (x:Except (Option Nat × Nat) (List Nat × Nat)):jX n o (jX m o' x) = jX (n + m) (o ++ o') x:=by
 match x with
 | .ok (a,b)=>simp [jX]; omega
 | .error (some q,e)=>simp [jX]; omega
 | .error (none,e)=>rfl
theorem rE {r:List Nat} {b k:Nat} (h:jI r = .ok (b,k)):2≤k∧k - 1≤r.length:=by
 unfold jI at h
 split at h
 · cases h
 rename_i c r1
 split at h
 · cases h
 split at h
 · cases h; simp
 split at h
 · cases h; simp
 split at h
 · cases h; simp
 split at h
 · cases h; simp
 split at h
 · split at h
   · cases h
   rename_i d r2
   split at h
   · cases h
   split at h
   · cases h
   split at h
   · cases h
   rename_i e r3
   split at h
   · cases h
   split at h
   · cases h
   cases h; simp
 cases h
theorem lT0 : ∀ (f g:Nat) (l:List Nat),l.length < f→l.length < g→dV f l = dV g l:=by
 intro f
 induction f with
 | zero=>intro g l h; omega
 | succ f ih=>?_
 intro g l hf hg
 cases g with
 | zero=>omega
 | succ g=>?_
 cases l with
 | nil=>rfl
 | cons c r=>?_
 simp only [List.length_cons] at hf hg
 unfold dV
 rw [ih g r (by omega) (by omega)]
 cases he:jI r with
 | error e=>rfl
 | ok bk=>?_
 obtain ⟨b,k⟩:=bk
 have hl:=rE he
 simp only
 rw [ih g (r.drop (k - 1)) (by rw [List.length_drop]; omega) (by rw [List.length_drop]; omega)]
def T (l:List Nat):Except (Option Nat × Nat) (List Nat × Nat):=dV (l.length + 1) l
theorem yH0 : T [] = .error (none,31):=rfl
theorem uE0 (c:Nat) (r:List Nat) (h:bM c = true):T (c :: r) = .error (none,31):=by simp [T,dV,h]
theorem iH0 (r:List Nat):T (34 :: r) = .ok ([],1):=by simp [T,dV,bM]
theorem iB0 (c:Nat) (r:List Nat) (h:bM c = false) (h2:¬ c = 34) (h3:lN c = true):T (c :: r) = jX 1 [c] (T r):=by
 unfold T
 rw [List.length_cons,dV]
 simp only [h,h2,h3,if_true,if_false,Bool.false_eq_true]
 rfl
theorem hG0 (c:Nat) (r:List Nat) (h:bM c = false) (h2:¬ c = 34) (h3:lN c = false) (he:jI r = .error 31):T (c :: r) = .error (none,31):=by
 unfold T
 rw [List.length_cons,dV]
 simp [h,h2,h3,he]
theorem pP0 (c:Nat) (r:List Nat) (e:Nat) (h:bM c = false) (h2:¬ c = 34) (h3:lN c = false) (he:jI r = .error e) (h31:¬ e = 31):T (c :: r) = .error (some 0,e):=by
 unfold T
 rw [List.length_cons,dV]
 simp [h,h2,h3,he,h31]
theorem yO0 (c:Nat) (r:List Nat) (b k:Nat) (h:bM c = false) (h2:¬ c = 34) (h3:lN c = false) (he:jI r = .ok (b,k)):T (c :: r) = jX k [b] (T (r.drop (k - 1))):=by
 have hl:=rE he
 unfold T
 rw [List.length_cons,dV]
 simp only [h,h2,h3,he,if_false,Bool.false_eq_true]
 rw [lT0 (r.length + 1) ((r.drop (k - 1)).length + 1) _ (by rw [List.length_drop]; omega) (by omega)]
 rfl
theorem sJ {r:List Nat} {e:Nat} (h:jI r = .error e):e = 31∨e = 32:=by
 unfold jI at h
 split at h
 · cases h; simp
 split at h
 · cases h; simp
 split at h
 · cases h
 split at h
 · cases h
 split at h
 · cases h
 split at h
 · cases h
 split at h
 · split at h
   · cases h; simp
   split at h
   · cases h; simp
   split at h
   · cases h; simp
   split at h
   · cases h; simp
   split at h
   · cases h; simp
   split at h
   · cases h; simp
   cases h
 cases h; simp
theorem dO0 {r:List Nat} {b k:Nat} (hr:∀ c ∈ r,c < 256) (h:jI r = .ok (b,k)):b < 256:=by
 unfold jI at h
 split at h
 · cases h
 rename_i c r1
 have hc:c < 256:=hr c (by simp)
 split at h
 · cases h
 split at h
 · cases h; exact hc
 split at h
 · cases h; omega
 split at h
 · cases h; omega
 split at h
 · cases h; omega
 split at h
 · split at h
   · cases h
   rename_i d r2
   split at h
   · cases h
   split at h
   · cases h
   rename_i hd
   split at h
   · cases h
   rename_i e r3
   split at h
   · cases h
   split at h
   · cases h
   rename_i he
   have h1:=pW d
   have h2:=pW e
   cases h; omega
 cases h
def oQ (p:Nat) (t:Except (Option Nat × Nat) (List Nat × Nat)):Value :=
 match t with
 | .ok (out,m)=>.tuple #[.agg #[.int .u8 3,.string (bJ out),.int .u64 0,.int .i64 (p:Int),.int .i64 ((p + 1 + m:Nat):Int)],.int .i64 0,.int .i64 0]
 | .error (none,e)=>.tuple #[.agg #[.int .u8 0,.string ⟨#[]⟩,.int .u64 0,.int .i64 0,.int .i64 0],.int .i64 (p:Int),.int .i64 (e:Int)]
 | .error (some q,e)=>.tuple #[.agg #[.int .u8 0,.string ⟨#[]⟩,.int .u64 0,.int .i64 0,.int .i64 0],.int .i64 ((p + 1 + q:Nat):Int),.int .i64 (e:Int)]
theorem tR0 (p j:Nat) (outs:List Nat) (h:p + 1≤j):oQ p (.ok (outs,1 + (j - (p + 1)))) = .tuple #[.agg #[.int .u8 3,.string (bJ outs),.int .u64 0,.int .i64 (p:Int),.int .i64 ((j:Int) + 1)],.int .i64 0,.int .i64 0]:=by
 show Value.tuple #[.agg #[.int .u8 3,.string (bJ outs),.int .u64 0,.int .i64 (p:Int),.int .i64 ((p + 1 + (1 + (j - (p + 1))):Nat):Int)],.int .i64 0,.int .i64 0] = _
 rw [show ((p + 1 + (1 + (j - (p + 1))):Nat):Int) = (j:Int) + 1 by omega]
theorem qX0 (p j e:Nat) (h:p + 1≤j):oQ p (.error (some (0 + (j - (p + 1))),e)) = .tuple #[.agg #[.int .u8 0,.string ⟨#[]⟩,.int .u64 0,.int .i64 0,.int .i64 0],.int .i64 (j:Int),.int .i64 (e:Int)]:=by
 show Value.tuple #[.agg #[.int .u8 0,.string ⟨#[]⟩,.int .u64 0,.int .i64 0,.int .i64 0],.int .i64 ((p + 1 + (0 + (j - (p + 1))):Nat):Int),.int .i64 (e:Int)] = _
 rw [show ((p + 1 + (0 + (j - (p + 1))):Nat):Int) = (j:Int) by omega]
def iO0 (s:ByteArray) (w1:World) (B p:Nat) (TT:Except (Option Nat × Nat) (List Nat × Nat)) (v i:Value) (wr:World):Prop :=
 ∃ (j:Nat) (outs:List Nat),p + 1≤j∧j≤s.size∧outs.length≤j∧i = .int .i64 j∧wr.ownsRow B 5 1 v outs.length (qF outs)∧Below B w1 wr∧jX (j - (p + 1)) outs (T ((aD s).drop j)) = TT
theorem hT0 {r:List Nat} {B K:Nat} (h:jR r = (B,K,0)):jI r = .ok (B,K):=by
 unfold jR at h
 cases he:jI r with
 | ok bk=>rw [he] at h; obtain ⟨b,k⟩:=bk; simp at h; obtain ⟨rfl,rfl⟩:=h; rfl
 | error e=>rw [he] at h; simp at h; rcases sJ he with rfl | rfl <;> simp at h
theorem hS0 {r:List Nat} {B K e:Nat} (h:jR r = (B,K,e)) (he0:¬ e = 0):jI r = .error e∧B = 0∧K = 0∧(e = 31∨e = 32):=by
 unfold jR at h
 cases he:jI r with
 | ok bk=>rw [he] at h; obtain ⟨b,k⟩:=bk; simp at h; omega
 | error e'=>rw [he] at h; simp at h; obtain ⟨rfl,rfl,rfl⟩:=h; exact ⟨rfl,rfl,rfl,sJ he⟩
theorem uX (s:ByteArray) (y:Int) (p:Nat) (R:Value) (hy:y = p) (hp:p < s.size) (h:s.size≤1048576) (hR:oQ p (T ((aD s).drop (p + 1))) = R) (w:World) :
    Calls Tryz.prog 116 #[.string s,.int .i64 y] w fun e w'=>e = .returned R∧Below w.heap.size w w':=by
 subst hy
 obtain ⟨TT,hTT⟩:∃ TT,Hid (T ((aD s).drop (p + 1)) = TT):=⟨_,rfl⟩
 have HR:Hid (oQ p TT = R):=by unfold Hid; rw [← hTT.out]; exact hR
 clear hR
 obtain ⟨g,hg⟩:∃ g,g = w.heap.size:=⟨_,rfl⟩
 have HG:=hI hg
 go_enter Tryz.func116,Tryz.ntmps116
 go_wp2_with fail
 rw [← hg]
 clear hg
 obtain ⟨w1,hw1⟩:∃ w1,w1 = w.alloc (.cells #[.int .u8 0,.string ⟨#[]⟩,.int .u64 0,.int .i64 0,.int .i64 0] 65):=⟨_,rfl⟩
 rw [← hw1]
 have HW1:=hI hw1
 have HB0:Hid (Below g w w1):=by unfold Hid; rw [hw1]; exact (Below.refl _ _).alloc (by rw [HG.out]; exact Nat.le_refl _) _
 have HS1:Hid (w1.heap.size = g + 1):=by unfold Hid; rw [hw1,HG.out]; exact Array.size_push _
 clear hw1
 go_loopw [7,8] (fun v i wr=>iO0 s w1 (g + 1) p TT v i wr) (fun _ i _=>s.size - (intOf i).toNat)
 case atStart=>exact ⟨p + 1,[],by omega,by omega,by simp,by go_num,World.ownsRow_nil _ _ _ _,Below.refl _ _,by rw [Nat.sub_self,tL]; exact hTT.out⟩
 case round =>
  obtain ⟨j,outs,hpj,hj,hlen,rfl,hown,hbel,hsh⟩:=hrel
  have hblk:wr.heap[g]? = some (.cells #[.int .u8 0,.string ⟨#[]⟩,.int .u64 0,.int .i64 0,.int .i64 0] 65):=by
   rw [hbel.block g (by omega),HW1.out,HG.out]; exact heap_alloc_new w _
  have c0:wr.cell? ⟨g,0,none⟩ = some (.int .u8 0):=cell_of_row _ g 0 _ _ _ hblk
  have c1:wr.cell? ⟨g,1,none⟩ = some (.string ⟨#[]⟩):=cell_of_row _ g 1 _ _ _ hblk
  have c2:wr.cell? ⟨g,2,none⟩ = some (.int .u64 0):=cell_of_row _ g 2 _ _ _ hblk
  have c3:wr.cell? ⟨g,3,none⟩ = some (.int .i64 0):=cell_of_row _ g 3 _ _ _ hblk
  have c4:wr.cell? ⟨g,4,none⟩ = some (.int .i64 0):=cell_of_row _ g 4 _ _ _ hblk
  have f0:∀ j,wr.frozen? ⟨g,j,none⟩ = false:=fun j=>by simp [World.frozen?,hblk]
  have HBK:=hI hblk
  have OW:=hI hown
  have BL:=hI hbel
  have BW:Hid (Below g w wr):=HB0.out.trans (hbel.mono (by omega))
  have hbase:g + 1≤wr.heap.size:=by have:=hbel.size; rw [HS1.out] at this; exact this
  have hbase2:g + 1≤wr.heap.size + 1:=by omega
  have SH:=hI hsh
  have hl2:outs.length≤1048576:=by omega
  clear hblk hown hbel hsh
  by_cases hlt:j < s.size
  · have hdrop:=bY s j hlt
    obtain ⟨c,hc⟩:=iQ ((s[j]'hlt).toNat)
    rw [hc] at hdrop
    have HD:=hI hdrop
    clear hdrop
    by_cases hends:bM c = true
    · have HE:Hid (bM c = true):=hends
      have HRV:Hid (oQ p (.error (none,31)) = R):=by
       unfold Hid; rw [← HR.out,← SH.out,HD.out,uE0 c _ hends]; rfl
      clear hends
      go_wp2_with fail
      refine (cK s _ j c rfl hlt hc h _).mono ?_
      rw [HE.out]
      rintro e wx ⟨rfl,rfl⟩
      go_wp2
      refine aM (g:=g) (t:=65) rfl rfl rfl (eD _ _ _ _ _ _ _ _ _ _ _ _ _ _ HBK.out) Tryz.underlying65 rfl (by kernel_rfl) ?_
      exact ⟨by rw [← HRV.out]; rfl,by rw [← HG.out]; exact cA BW.out (Nat.le_refl _)⟩
    have HE:Hid (bM c = false):=by simpa [Hid] using hends
    clear hends
    by_cases hq:c = 34
    · subst hq
      have HRV:Hid (oQ p (.ok (outs,1 + (j - (p + 1)))) = R):=by
       unfold Hid; rw [← HR.out,← SH.out,HD.out,iH0]; simp [jX]
      have hcv:=aO0 OW.out
      go_wp2_with fail
      refine (cK s _ j 34 rfl hlt hc h _).mono ?_
      rw [HE.out]
      rintro e wx ⟨rfl,rfl⟩
      go_wp2
      refine aM (g:=g) (t:=65) rfl rfl rfl (eD _ _ _ _ _ _ _ _ _ _ _ _ _ _ HBK.out) Tryz.underlying65 rfl (by kernel_rfl) ?_
      refine ⟨?_,by rw [← HG.out]; exact cA BW.out (Nat.le_refl _)⟩
      rw [← HRV.out,tR0 p j outs hpj]
      rfl
    have hq0:((c:Int) == 34) = false:=by simp; omega
    by_cases hpl:lN c = true
    · have HP:Hid (lN c = true):=hpl
      have HQ:=hI hq
      have SH2:Hid (jX (j + 1 - (p + 1)) (outs ++ [c]) (T ((aD s).drop (j + 1))) = TT):=by
       unfold Hid; rw [← SH.out,HD.out,iB0 c _ HE.out hq hpl,oL]; congr 1; omega
      clear hpl hq
      go_wp2_with fail
      refine (cK s _ j c rfl hlt hc h _).mono ?_
      rw [HE.out]
      rintro e wx ⟨rfl,rfl⟩
      go_wp2_with fail
      refine (nN c _).mono ?_
      rw [HP.out]
      rintro e wx ⟨rfl,rfl⟩
      go_wp2_with (at_builtin; refine pH rfl (.tmp 33) (.tmp 37) rfl (g + 1) u7 outs.length outs rfl OW.out _ c rfl rfl (by omega) hbase ?_; intro v1 w1' own1 bel1)
      go_roundw
      case rel =>
       refine ⟨j + 1,outs ++ [c],by omega,by omega,by rw [List.length_append]; simp; omega,by go_num,?_,BL.out.trans bel1,SH2.out⟩
       rw [List.length_append]; exact own1
      case measure=>simp [intOf]; omega
    have HP:Hid (lN c = false):=by simpa [Hid] using hpl
    obtain ⟨⟨B,K,X⟩,hX⟩:∃ x,jR ((aD s).drop (j + 1)) = x:=⟨_,rfl⟩
    have HX:=hI hX
    by_cases hX0:X = 0
    · subst hX0
      have hok:=hT0 hX
      have hl:=rE hok
      rw [List.length_drop,aK] at hl
      have hB:B < 256:=dO0 (fun c hc=>dO s c (List.mem_of_mem_drop hc)) hok
      have SH2:Hid (jX (j + K - (p + 1)) (outs ++ [B]) (T ((aD s).drop (j + K))) = TT):=by
       unfold Hid
       rw [← SH.out,HD.out,yO0 c _ B K HE.out hq HP.out hok,oL,List.drop_drop]
       congr 1
       · omega
       congr 2; omega
      clear hpl hq hok hX
      go_wp2_with fail
      refine (cK s _ j c rfl hlt hc h _).mono ?_
      rw [HE.out]
      rintro e wx ⟨rfl,rfl⟩
      go_wp2_with fail
      refine (nN c _).mono ?_
      rw [HP.out]
      rintro e wx ⟨rfl,rfl⟩
      go_wp2_with fail
      refine (zE s _ j B K 0 rfl hlt h HX.out _).mono ?_
      rintro e wx ⟨rfl,rfl⟩
      go_wp2_with (at_builtin; refine pH rfl (.tmp 58) (.tmp 60) rfl (g + 1) u7 outs.length outs rfl OW.out _ B rfl rfl (by omega) hbase ?_; intro v1 w1' own1 bel1)
      go_roundw
      case rel =>
       refine ⟨j + K,outs ++ [B],by omega,by omega,by rw [List.length_append]; simp; omega,by go_num,?_,BL.out.trans bel1,SH2.out⟩
       rw [List.length_append]; exact own1
      case measure=>simp [intOf]; omega
    obtain ⟨her,rfl,rfl,h3132⟩:=hS0 hX hX0
    rcases h3132 with rfl | rfl
    · have HRV:Hid (oQ p (.error (none,31)) = R):=by
       unfold Hid; rw [← HR.out,← SH.out,HD.out,hG0 c _ HE.out hq HP.out her]; rfl
      clear hpl hq her hX hX0
      go_wp2_with fail
      refine (cK s _ j c rfl hlt hc h _).mono ?_
      rw [HE.out]
      rintro e wx ⟨rfl,rfl⟩
      go_wp2_with fail
      refine (nN c _).mono ?_
      rw [HP.out]
      rintro e wx ⟨rfl,rfl⟩
      go_wp2_with fail
      refine (zE s _ j 0 0 31 rfl hlt h HX.out _).mono ?_
      rintro e wx ⟨rfl,rfl⟩
      go_wp2
      refine aM (g:=g) (t:=65) rfl rfl rfl (eD _ _ _ _ _ _ _ _ _ _ _ _ _ _ HBK.out) Tryz.underlying65 rfl (by kernel_rfl) ?_
      exact ⟨by rw [← HRV.out]; rfl,by rw [← HG.out]; exact cA BW.out (Nat.le_refl _)⟩
    have HRV:Hid (oQ p (.error (some (0 + (j - (p + 1))),32)) = R):=by
     unfold Hid; rw [← HR.out,← SH.out,HD.out,pP0 c _ 32 HE.out hq HP.out her (by omega)]; rfl
    clear hpl hq her hX hX0
    go_wp2_with fail
    refine (cK s _ j c rfl hlt hc h _).mono ?_
    rw [HE.out]
    rintro e wx ⟨rfl,rfl⟩
    go_wp2_with fail
    refine (nN c _).mono ?_
    rw [HP.out]
    rintro e wx ⟨rfl,rfl⟩
    go_wp2_with fail
    refine (zE s _ j 0 0 32 rfl hlt h HX.out _).mono ?_
    rintro e wx ⟨rfl,rfl⟩
    go_wp2
    refine aM (g:=g) (t:=65) rfl rfl rfl (eD _ _ _ _ _ _ _ _ _ _ _ _ _ _ HBK.out) Tryz.underlying65 rfl (by kernel_rfl) ?_
    refine ⟨?_,by rw [← HG.out]; exact cA BW.out (Nat.le_refl _)⟩
    rw [← HRV.out,qX0 p j 32 hpj]
    rfl
  have hjs:s.size≤j:=by omega
  have HRV:Hid (oQ p (.error (none,31)) = R):=by
   unfold Hid; rw [← HR.out,← SH.out,show (aD s).drop j = [] from List.drop_eq_nil_of_le (by rw [aK]; omega),yH0]; rfl
  go_wp2_with fail
  refine (pS s _ j rfl hjs h _).mono ?_
  rintro e wx ⟨rfl,rfl⟩
  go_wp2
  refine aM (g:=g) (t:=65) rfl rfl rfl (eD _ _ _ _ _ _ _ _ _ _ _ _ _ _ HBK.out) Tryz.underlying65 rfl (by kernel_rfl) ?_
  exact ⟨by rw [← HRV.out]; rfl,by rw [← HG.out]; exact cA BW.out (Nat.le_refl _)⟩
def qJ : List ByteArray:=[⟨#[114,101,99,111,114,100]⟩,⟨#[102,110]⟩,⟨#[118,97,114]⟩,⟨#[105,102]⟩,⟨#[101,108,115,101]⟩,⟨#[119,104,105,108,101]⟩,⟨#[102,111,114]⟩,⟨#[115,119,105,116,99,104]⟩,⟨#[99,97,115,101]⟩,⟨#[100,101,102,97,117,108,116]⟩,⟨#[98,114,101,97,107]⟩,⟨#[99,111,110,116,105,110,117,101]⟩,⟨#[114,101,116,117,114,110]⟩,⟨#[116,114,97,112]⟩,⟨#[110,101,119]⟩,⟨#[116,114,117,101]⟩,⟨#[102,97,108,115,101]⟩,⟨#[105,56]⟩,⟨#[105,51,50]⟩,⟨#[105,54,52]⟩,⟨#[98,111,111,108]⟩,⟨#[98,121,116,101,115]⟩,⟨#[108,101,110]⟩,⟨#[99,117,116]⟩,⟨#[98,121,116,101]⟩,⟨#[112,117,115,104]⟩,⟨#[112,111,112]⟩]
theorem yP : qJ.map aD = qH:=rfl
theorem dZ0 (i:Nat) (h:i < 27):aD (qJ.getD i ⟨#[]⟩) = qH.getD i []:=by
 have h2:i < qJ.length:=h
 rw [← yP,List.getD_eq_getElem?_getD,List.getD_eq_getElem?_getD,List.getElem?_map,List.getElem?_eq_getElem h2]; rfl
theorem pW0 (j:Nat) (h:j < 27):((qJ.map Value.string).toArray)[j]? = some (.string (qJ.getD j ⟨#[]⟩)):=by
 have h2:j < qJ.length:=h
 rw [List.getElem?_toArray,List.getElem?_map,List.getElem?_eq_getElem h2,List.getD_eq_getElem?_getD,List.getElem?_eq_getElem h2]
 rfl
theorem mW0 (l:List Nat) (i:Nat) (h:i < 27) (hi:l = qH.getD i []):kC l = true:=by
 have h2:i < qH.length:=h
 unfold kC
 rw [hi,List.getD_eq_getElem?_getD,List.getElem?_eq_getElem h2]
 simp
theorem xF0 (l:List Nat) (hb:∀ j,j < 27→¬ l = qH.getD j []):kC l = false:=by
 unfold kC
 simp only [decide_eq_false_iff_not]
 intro hx
 obtain ⟨j,hj,rfl⟩:=List.getElem_of_mem hx
 apply hb j hj
 rw [List.getD_eq_getElem?_getD,List.getElem?_eq_getElem hj]; rfl
def xJ0 (l:List Nat) (i:Value):Prop:=∃ k:Nat,k≤27∧i = .int .i64 k∧∀ j,j < k→¬ l = qH.getD j []
theorem sT0 (s:ByteArray) (b:Bool) (hb:kC (aD s) = b) (w:World) :
    Calls Tryz.prog 104 #[.string s] w fun e w'=>e = .returned (.bool b)∧Below w.heap.size w w':=by
 have HBB:=hI hb
 clear hb
 obtain ⟨g,hg⟩:∃ g,g = w.heap.size:=⟨_,rfl⟩
 have HG:=hI hg
 go_enter Tryz.func104,Tryz.ntmps104
 go_wp2_with fail
 obtain ⟨w1,hw1⟩:∃ w1,w1 = w.alloc (.cells #[.string ⟨#[114,101,99,111,114,100]⟩,.string ⟨#[102,110]⟩,.string ⟨#[118,97,114]⟩,.string ⟨#[105,102]⟩,.string ⟨#[101,108,115,101]⟩,.string ⟨#[119,104,105,108,101]⟩,.string ⟨#[102,111,114]⟩,.string ⟨#[115,119,105,116,99,104]⟩,.string ⟨#[99,97,115,101]⟩,.string ⟨#[100,101,102,97,117,108,116]⟩,.string ⟨#[98,114,101,97,107]⟩,.string ⟨#[99,111,110,116,105,110,117,101]⟩,.string ⟨#[114,101,116,117,114,110]⟩,.string ⟨#[116,114,97,112]⟩,.string ⟨#[110,101,119]⟩,.string ⟨#[116,114,117,101]⟩,.string ⟨#[102,97,108,115,101]⟩,.string ⟨#[105,56]⟩,.string ⟨#[105,51,50]⟩,.string ⟨#[105,54,52]⟩,.string ⟨#[98,111,111,108]⟩,.string ⟨#[98,121,116,101,115]⟩,.string ⟨#[108,101,110]⟩,.string ⟨#[99,117,116]⟩,.string ⟨#[98,121,116,101]⟩,.string ⟨#[112,117,115,104]⟩,.string ⟨#[112,111,112]⟩] 9):=⟨_,rfl⟩
 rw [← hw1,← hg]
 have hcells:∀ j,j < 27→w1.cell? ⟨g,j,none⟩ = some (.string (qJ.getD j ⟨#[]⟩)):=by
  intro j hj
  rw [hw1,hg]
  exact (cell_of_row _ _ j _ _ _ (heap_alloc_new _ _)).trans (pW0 j hj)
 have HC:=hI hcells
 have HB1:Hid (Below w.heap.size w w1):=by unfold Hid; rw [hw1]; exact (Below.refl _ _).alloc (Nat.le_refl _) _
 clear hw1 hg hcells
 go_loop [7] (fun i=>xJ0 (aD s) i) (fun i=>27 - (intOf i).toNat)
 case atStart=>exact ⟨0,by omega,rfl,fun j hj=>by omega⟩
 case round =>
  obtain ⟨k,hk,rfl,hno⟩:=hrel
  have HNO:=hI hno
  clear hno
  by_cases hlt:k < 27
  · obtain ⟨x,hx⟩:∃ x,Hid (qJ.getD k ⟨#[]⟩ = x):=⟨_,rfl⟩
    have hcell:w1.cell? ⟨g,k,none⟩ = some (.string x):=by rw [← hx.out]; exact HC.out k hlt
    have HXB:Hid (aD x = qH.getD k []):=by unfold Hid; rw [← hx.out]; exact dZ0 k hlt
    by_cases he:aD s = aD x
    · have heq:(s.toList == x.toList) = true:=by rw [mH]; simp [he]
      have HT:Hid (true = b):=by unfold Hid; rw [← HBB.out]; exact (mW0 _ k hlt (by rw [he]; exact HXB.out)).symm
      clear he
      go_wp2
      go_ret
      exact ⟨aW HT.out,HB1.out⟩
    have heq:(s.toList == x.toList) = false:=by rw [mH]; simp [he]
    have HNO2:Hid (∀ j,j < k + 1→¬ aD s = qH.getD j []):=by
     intro j hj
     by_cases hjk:j = k
     · subst hjk; rw [← HXB.out]; exact he
     exact HNO.out j (by omega)
    clear he
    go_wp2
    go_round
    case rel=>exact ⟨k + 1,by omega,by go_num,HNO2.out⟩
    case measure=>simp [intOf]; omega
  have hk27:k = 27:=by omega
  have HF:Hid (false = b):=by unfold Hid; rw [← HBB.out]; exact (xF0 _ (by rw [← hk27]; exact HNO.out)).symm
  subst hk27
  go_wp2
  go_ret
  exact ⟨aW HF.out,HB1.out⟩
theorem qD0 (s:ByteArray) (h:s.size = 0):s = ⟨#[]⟩:=by
 apply iK
 have h1:aD s = []:=List.eq_nil_of_length_eq_zero (by rw [aK]; exact h)
 rw [h1]; rfl
end Go.Proofs.YtnipenijihkgdaaGreatDoor
