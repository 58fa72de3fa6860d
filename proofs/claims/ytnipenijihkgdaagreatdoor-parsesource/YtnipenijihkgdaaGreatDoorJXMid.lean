import Derived.Test.YtnipenijihkgdaaGreatDoorNd
import Derived.Test.YtnipenijihkgdaaGreatDoorJXLow
import Derived.Test.YtnipenijihkgdaaGreatDoorJOne
import Derived.Test.YtnipenijihkgdaaGreatDoorJLow
set_option maxHeartbeats 2000000
set_option maxRecDepth 100000
namespace Go.Proofs.YtnipenijihkgdaaGreatDoor
open Go.RowKit
set_option linter.unusedVariables false
theorem zW (q:Nat→Bool):∀ l:List Nat,mX q l≤l.length
 | []=>Nat.le_refl _
 | c :: r=>by
  by_cases h:q c = true
  · rw [lE _ _ _ h,List.length_cons]; have:=zW q r; omega
  rw [lY _ _ _ (by simpa using h)]; omega
theorem zB (q:Nat→Bool):∀ (l:List Nat) (c:Nat) (r:List Nat),l.drop (mX q l) = c :: r→q c = false
 | [],c,r,h=>by simp [mX] at h
 | d :: t,c,r,h=>by
  by_cases hd:q d = true
  · rw [lE _ _ _ hd,Nat.add_comm,List.drop_succ_cons] at h
    exact zB q t c r h
  rw [lY _ _ _ (by simpa using hd),List.drop_zero] at h
  obtain ⟨rfl,_⟩:=List.cons.inj h
  simpa using hd
theorem rE0 (c:Nat) (r:List Nat) (h:¬ c = 47):dG (c :: r) [47,47] = false:=by
 unfold dG
 simp only [decide_eq_false_iff_not]
 intro q
 simp at q
 exact h q.1
theorem qB : ∀ l:List Nat,aP false l = mX fO l + aP false (l.drop (mX fO l))
 | []=>rfl
 | c :: r=>by
  by_cases h:fO c = true
  · have h47:¬ c = 47:=by intro e; subst e; simp [fO] at h
    rw [lE _ _ _ h,Nat.add_comm 1,List.drop_succ_cons,vT c r (rE0 c r h47) h,qB r]
    have:=qB r
    omega
  rw [lY _ _ _ (by simpa using h),List.drop_zero]; omega
theorem fO0 (l:List Nat) (h:dG (l.drop (mX fO l)) [47,47] = false):aP false l = mX fO l:=by
 rw [qB]
 cases hd:l.drop (mX fO l) with
 | nil=>rfl
 | cons c r=>?_
 have hb:=zB _ _ _ _ hd
 rw [hd] at h
 rw [uP c r h hb]; rfl
theorem wQ : ∀ l:List Nat,aP true l = qS l + aP false (l.drop (qS l))
 | []=>rfl
 | c :: r=>by
  unfold qS
  by_cases h:c = 10
  · subst h
    rw [lY _ _ _ (by decide),List.drop_zero,yF]; omega
  rw [lE _ _ _ (by simpa using h),Nat.add_comm 1,List.drop_succ_cons,yK]
  have:=wQ r
  unfold qS at this
  simp only [ne_eq,h,not_false_eq_true,decide_true]
  simp only [ne_eq] at this
  omega
theorem uQ0 (l:List Nat) (h:dG l [47,47] = true):1≤qS l:=by
 unfold dG at h
 simp only [decide_eq_true_eq] at h
 match l,h with
 | 47 :: 47 :: r,_=>unfold qS; rw [lE _ _ _ (by decide)]; omega
theorem zE0 : isB [0] = fO:=by funext c; simp [isB,kG]
theorem bZ0 : isB [1] = bO:=by funext c; simp [isB,kG]
theorem bV0 : isB [2] = aY:=by funext c; simp [isB,kG]
theorem isB4 : isB [4] = bM:=by funext c; simp [isB,kG]
theorem aY0 : isB [1,2] = cO:=by funext c; simp [isB,kG,cO]
theorem lM (w:World) (k:Nat) (hk:k < 5) (v:Int) (hv:v = k) (t:TypeId):qA (w.alloc (.cells #[.int .u8 v] t)) w.heap.size [k]:=by
 subst hv
 refine ⟨?_,by simpa using hk⟩
 intro i hi
 match i,hi with
 | 0,_=>exact cell_of_row _ _ 0 _ _ _ (heap_alloc_new _ _)
theorem sY (w:World) (k j:Nat) (hk:k < 5) (hj:j < 5) (v u:Int) (hv:v = k) (hu:u = j) (t:TypeId):qA (w.alloc (.cells #[.int .u8 v,.int .u8 u] t)) w.heap.size [k,j]:=by
 subst hv; subst hu
 refine ⟨?_,by simp; omega⟩
 intro i hi
 match i,hi with
 | 0,_=>exact cell_of_row _ _ 0 _ _ _ (heap_alloc_new _ _)
 | 1,_=>exact cell_of_row _ _ 1 _ _ _ (heap_alloc_new _ _)
theorem iG (s:ByteArray) (k:Nat) (hk:k≤s.size):aD (s.extract k s.size) = (aD s).drop k:=by
 rw [eM]
 exact List.take_of_length_le (by rw [List.length_drop,aK]; exact Nat.le_refl _)
theorem kX (s:ByteArray) (k:Nat) (hk:k≤s.size):(s.extract k s.size).size = s.size - k:=by
 rw [← aK,iG s k hk,List.length_drop,aK]
def xP0 (s:ByteArray) (w:World) (E:Nat) (i:Value) (wr:World):Prop:=∃ k:Nat,k≤s.size∧i = .int .i64 k∧k + aP false ((aD s).drop k) = E∧Below w.heap.size w wr
theorem cD0 (s:ByteArray) (y:Int) (p E:Nat) (hy:y = p) (hp:p≤s.size) (h:s.size≤1048576) (hE:p + aP false ((aD s).drop p) = E) (w:World) :
    Calls Tryz.prog 106 #[.string s,.int .i64 y] w fun e w'=>e = .returned (.int .i64 (E:Int))∧Below w.heap.size w w':=by
 subst hy
 have HE0:=hI hE
 clear hE
 go_enter Tryz.func106,Tryz.ntmps106
 go_wp2_with fail
 go_loopw [1] (fun i wr=>xP0 s w E i wr) (fun i _=>s.size - (intOf i).toNat)
 case atStart=>exact ⟨p,hp,rfl,HE0.out,Below.refl _ _⟩
 case round =>
  obtain ⟨k,hk,rfl,hkE,hbel⟩:=hrel
  have HE:=hI hkE
  have BL:=hI hbel
  have hbw:w.heap.size≤wr.heap.size:=hbel.size
  obtain ⟨K,hK⟩:∃ K,Hid (k + mX fO ((aD s).drop k) = K):=⟨_,rfl⟩
  have hKs:k≤K∧K≤s.size:=by
   have:=zW fO ((aD s).drop k)
   rw [List.length_drop,aK] at this
   rw [← hK.out]; omega
  have hdd:((aD s).drop k).drop (mX fO ((aD s).drop k)) = (aD s).drop K:=by rw [List.drop_drop,hK.out]
  have HDD:=hI hdd
  have hts:=kX s K hKs.2
  obtain ⟨t,ht⟩:∃ t,Hid (s.extract K s.size = t):=⟨_,rfl⟩
  rw [ht.out] at hts
  have HTB:Hid (aD t = (aD s).drop K):=by unfold Hid; rw [← ht.out]; exact iG s K hKs.2
  have hext:s.extract K s.size = t:=ht.out
  have hts2:t.size≤1048576:=by omega
  have HTS:=hI hts
  clear hkE hbel hdd hts
  by_cases hr:dG ((aD s).drop K) [47,47] = true
  · have HR:Hid (dG ((aD s).drop K) [47,47] = true):=hr
    have HE2:Hid (K + qS ((aD s).drop K) + aP false ((aD s).drop (K + qS ((aD s).drop K))) = E):=by
     unfold Hid
     rw [← HE.out,qB ((aD s).drop k),HDD.out,tO _ hr,wQ ((aD s).drop K),List.drop_drop,← hK.out]; omega
    obtain ⟨m,hm⟩:∃ m,Hid (qS ((aD s).drop K) = m):=⟨_,rfl⟩
    have hm1:1≤m:=by rw [← hm.out]; exact uQ0 _ hr
    have hml:m≤s.size - K:=by
     have:=zW (fun d=>decide (d ≠ 10)) ((aD s).drop K)
     rw [List.length_drop,aK] at this
     rw [← hm.out]; exact this
    rw [hm.out] at HE2
    clear hr
    by_cases hin:m < s.size - K
    · have HV:Hid ((if qS (aD t) < (aD t).length then (qS (aD t):Int) else -1) = (m:Int)):=by
       unfold Hid; rw [HTB.out,hm.out,List.length_drop,aK,if_pos hin]
      go_wp2_with fail
      refine (gY s k k K [0] wr.heap.size 1 _ rfl hk h rfl (by omega) (by rw [zE0]; exact hK.out) (lM wr 0 (by omega) 0 rfl _)).mono ?_
      rintro e wx ⟨rfl,rfl⟩
      go_wp2_with fail
      refine (pK t ⟨#[47,47]⟩ hts2 (by decide) _).mono ?_
      rw [HTB.out,show aD ⟨#[47,47]⟩ = [47,47] from rfl,HR.out]
      rintro e wx ⟨rfl,rfl⟩
      go_wp2_with fail
      refine (yR t (m:Int) HV.out _).mono ?_
      rintro e wx ⟨rfl,rfl⟩
      go_wp2
      go_roundw
      case rel=>exact ⟨K + m,by omega,by go_num,HE2.out,BL.out.alloc hbw _⟩
      case measure=>simp [intOf]; omega
    have hme:m = s.size - K:=by omega
    have HV:Hid ((if qS (aD t) < (aD t).length then (qS (aD t):Int) else -1) = -1):=by
     unfold Hid; rw [HTB.out,hm.out,List.length_drop,aK,if_neg hin]
    have HF:Hid (s.size = E):=by
     unfold Hid; rw [← HE2.out,hme,show K + (s.size - K) = s.size by omega,hH]; rfl
    go_wp2_with fail
    refine (gY s k k K [0] wr.heap.size 1 _ rfl hk h rfl (by omega) (by rw [zE0]; exact hK.out) (lM wr 0 (by omega) 0 rfl _)).mono ?_
    rintro e wx ⟨rfl,rfl⟩
    go_wp2_with fail
    refine (pK t ⟨#[47,47]⟩ hts2 (by decide) _).mono ?_
    rw [HTB.out,show aD ⟨#[47,47]⟩ = [47,47] from rfl,HR.out]
    rintro e wx ⟨rfl,rfl⟩
    go_wp2_with fail
    refine (yR t (-1) HV.out _).mono ?_
    rintro e wx ⟨rfl,rfl⟩
    go_wp2
    go_ret
    exact ⟨fK (by rw [HF.out]),BL.out.alloc hbw _⟩
  have HR:Hid (dG ((aD s).drop K) [47,47] = false):=by simpa [Hid] using hr
  have HF:Hid (K = E):=by
   unfold Hid; rw [← HE.out,fO0 _ (by rw [HDD.out]; exact HR.out),hK.out]
  clear hr
  go_wp2_with fail
  refine (gY s k k K [0] wr.heap.size 1 _ rfl hk h rfl (by omega) (by rw [zE0]; exact hK.out) (lM wr 0 (by omega) 0 rfl _)).mono ?_
  rintro e wx ⟨rfl,rfl⟩
  go_wp2_with fail
  refine (pK t ⟨#[47,47]⟩ hts2 (by decide) _).mono ?_
  rw [HTB.out,show aD ⟨#[47,47]⟩ = [47,47] from rfl,HR.out]
  rintro e wx ⟨rfl,rfl⟩
  go_wp2
  go_ret
  exact ⟨fK (by rw [HF.out]),BL.out.alloc hbw _⟩
theorem yP0 (c:Nat):isB [2,3] c = decide (¬ dH c = 16):=by
 rw [Bool.eq_iff_iff]
 simp only [isB,List.any_cons,List.any_nil,Bool.or_false,Bool.or_eq_true,decide_eq_true_eq]
 constructor
 · rintro (h | h)
   · have:48≤c∧c≤57:=by simpa [kG,aY] using h
     unfold dH; rw [if_pos (by simpa [aY] using this)]; omega
   have:(97≤c∧c≤102)∨(65≤c∧c≤70):=by simpa [kG,jJ0] using h
   unfold dH
   rw [if_neg (by simp [aY]; omega)]
   rcases this with h | h
   · rw [if_pos h]; omega
   rw [if_neg (by omega),if_pos h]; omega
 intro h
 rcases yX c h with ⟨h1,h2,_⟩ | ⟨h1,h2,_⟩ | ⟨h1,h2,_⟩
 · exact .inl (by simp [kG,aY]; omega)
 · exact .inr (by simp [kG,jJ0]; omega)
 exact .inr (by simp [kG,jJ0]; omega)
theorem zD (s:ByteArray) (x:Int) (k:Nat) (hx:x = k) (hk:s.size≤k) (h:s.size≤1048576) (w:World) :
    Calls Tryz.prog 170 #[.string s,.int .i64 x] w fun e w'=>e = .returned (.bool true)∧w = w':=by
 subst hx
 go_enter Tryz.func170,Tryz.ntmps170
 go_wp2
 go_ret
 exact ⟨rfl,rfl⟩
theorem kJ (s:ByteArray) (x:Int) (k c:Nat) (hx:x = k) (hk:k < s.size) (hc:(s[k]'hk).toNat = c) (h:s.size≤1048576) (b:Bool) (hb:bM c = b) (w:World) :
    Calls Tryz.prog 170 #[.string s,.int .i64 x] w fun e w'=>e = .returned (.bool b)∧Below w.heap.size w w':=by
 subst hx
 have HB:=hI hb
 clear hb
 go_enter Tryz.func170,Tryz.ntmps170
 go_wp2_with fail
 refine (eW [4] w.heap.size 1 c _ rfl (by omega) b (by rw [isB4]; exact HB.out) (lM w 4 (by omega) 4 rfl _)).mono ?_
 rintro e wx ⟨rfl,rfl⟩
 go_wp2
 go_ret
 exact ⟨aW (by rw [decide_eq_false (by omega)]; rfl),(Below.refl _ _).alloc (Nat.le_refl _) _⟩
def mJ : Nat→Nat→List Nat→Nat × Nat × Nat
 | 0,acc,_=>(acc,4,0)
 | _ + 1,_,[]=>(0,0,31)
 | n + 1,acc,c :: r=>if bM c then (0,0,31) else if dH c = 16 then (0,0,32) else mJ n (16 * acc + dH c) r
theorem rU (n a c:Nat) (r:List Nat) (h:bM c = true):mJ (n + 1) a (c :: r) = (0,0,31):=by rw [mJ,if_pos h]
theorem uW (n a c:Nat) (r:List Nat) (h:bM c = false) (h2:dH c = 16):mJ (n + 1) a (c :: r) = (0,0,32):=by rw [mJ,if_neg (by simp [h]),if_pos h2]
theorem aJ0 (n a c:Nat) (r:List Nat) (h:bM c = false) (h2:¬ dH c = 16):mJ (n + 1) a (c :: r) = mJ n (16 * a + dH c) r:=by rw [mJ,if_neg (by simp [h]),if_neg h2]
def xY0 (s:ByteArray) (w:World) (q:Nat) (R:Nat × Nat × Nat) (i:Value) (wr:World):Prop :=
 Below w.heap.size w wr∧∃ (n acc k:Nat),n + k = 2∧q + k≤s.size + 2∧i = .int .i64 ((q:Int) + k)∧mJ n acc ((aD s).drop (q + k)) = R ∧
  (k = 0→acc = 0)∧(k = 1→∃ d,(aD s)[q]? = some d∧¬ dH d = 16∧acc = dH d)∧(k = 2→∃ d e,(aD s)[q]? = some d∧(aD s)[q + 1]? = some e∧¬ dH d = 16∧¬ dH e = 16∧acc = 16 * dH d + dH e)
theorem nY0 (s:ByteArray) (y:Int) (q B K X:Nat) (hy:y = q) (hq:q≤s.size) (h:s.size≤1048576) (hR:mJ 2 0 ((aD s).drop q) = (B,K,X)) (w:World) :
    Calls Tryz.prog 171 #[.string s,.int .i64 y] w fun e w'=>e = .returned (.tuple #[.int .u8 (B:Int),.int .i64 (K:Int),.int .i64 (X:Int)])∧Below w.heap.size w w':=by
 subst hy
 have HR0:=hI hR
 clear hR
 go_enter Tryz.func171,Tryz.ntmps171
 go_wp2_with fail
 go_loopw [7] (fun i wr=>xY0 s w q (B,K,X) i wr) (fun i _=>q + 2 - (intOf i).toNat)
 case atStart=>exact ⟨Below.refl _ _,2,0,0,rfl,by omega,by simp,by rw [Nat.add_zero]; exact HR0.out,fun _=>rfl,fun e=>by omega,fun e=>by omega⟩
 case round =>
  obtain ⟨hbel,n,acc,k,hnk,hqk,rfl,hR,hk0,hk1,hk2⟩:=hrel
  have BL:=hI hbel
  have hbw:w.heap.size≤wr.heap.size:=hbel.size
  have HR:=hI hR
  have H0:=hI hk0
  have H1:=hI hk1
  have H2:=hI hk2
  clear hbel hR hk0 hk1 hk2 HR0
  obtain ⟨j,hj⟩:=iQ (q + k)
  have hji:((q:Int) + (k:Int)) = (j:Int):=by omega
  rw [hj] at HR
  rw [hji]
  by_cases hlt:k < 2
  · have hj2:(j:Int) < (q:Int) + 2:=by omega
    obtain ⟨m,rfl⟩:∃ m,n = m + 1:=⟨n - 1,by omega⟩
    by_cases hin:j < s.size
    · have hdrop:=bY s j hin
      obtain ⟨c,hc⟩:=iQ ((s[j]'hin).toNat)
      rw [hc] at hdrop
      have hget:=oD s j hin
      rw [hc] at hget
      have HG:=hI hget
      rw [hdrop] at HR
      clear hdrop hget
      by_cases he:bM c = true
      · have HE:Hid (bM c = true):=he
        have HF:Hid ((0,0,31) = (B,K,X)):=by unfold Hid; rw [← HR.out,rU _ _ _ _ he]
        clear he
        obtain ⟨rfl,h2⟩:=Prod.mk.inj HF.out
        obtain ⟨rfl,rfl⟩:=Prod.mk.inj h2
        clear h2 HF HR
        go_wp2_with fail
        refine (kJ s j j c rfl hin hc h true HE.out _).mono ?_
        rintro e w2 ⟨rfl,hb2⟩
        have HB2:Hid (Below w.heap.size w w2):=cL BL.out hb2 (Nat.le_refl _)
        clear hb2
        go_wp2
        go_ret3
        exact ⟨rfl,HB2.out⟩
      have HE:Hid (bM c = false):=by simpa [Hid] using he
      clear he
      by_cases hx:dH c = 16
      · have HX:Hid (isB [2,3] c = false):=by unfold Hid; rw [yP0]; simp [hx]
        have HF:Hid ((0,0,32) = (B,K,X)):=by unfold Hid; rw [← HR.out,uW _ _ _ _ HE.out hx]
        obtain ⟨rfl,h2⟩:=Prod.mk.inj HF.out
        obtain ⟨rfl,rfl⟩:=Prod.mk.inj h2
        clear h2 HF HR hx
        go_wp2_with fail
        refine (kJ s j j c rfl hin hc h false HE.out _).mono ?_
        rintro e w2 ⟨rfl,hb2⟩
        have HB2:Hid (Below w.heap.size w w2):=cL BL.out hb2 (Nat.le_refl _)
        clear hb2
        go_wp2_with fail
        refine (eW [2,3] w2.heap.size 2 c _ rfl (by omega) false HX.out (sY w2 2 3 (by omega) (by omega) 2 3 rfl rfl _)).mono ?_
        rintro e wx ⟨rfl,rfl⟩
        go_wp2
        go_ret3
        exact ⟨rfl,HB2.out.alloc HB2.out.size _⟩
      have HX:Hid (isB [2,3] c = true):=by unfold Hid; rw [yP0]; simp [hx]
      have HF:Hid (mJ m (16 * acc + dH c) ((aD s).drop (j + 1)) = (B,K,X)):=by unfold Hid; rw [← HR.out,aJ0 _ _ _ _ HE.out hx]
      have HXX:=hI hx
      clear hx HR
      go_wp2_with fail
      refine (kJ s j j c rfl hin hc h false HE.out _).mono ?_
      rintro e w2 ⟨rfl,hb2⟩
      have HB2:Hid (Below w.heap.size w w2):=cL BL.out hb2 (Nat.le_refl _)
      clear hb2
      go_wp2_with fail
      refine (eW [2,3] w2.heap.size 2 c _ rfl (by omega) true HX.out (sY w2 2 3 (by omega) (by omega) 2 3 rfl rfl _)).mono ?_
      rintro e wx ⟨rfl,rfl⟩
      go_wp2
      go_roundw
      case rel =>
       refine ⟨HB2.out.alloc HB2.out.size _,m,16 * acc + dH c,k + 1,by omega,by omega,by congr 1; omega,by rw [← Nat.add_assoc,hj]; exact HF.out,fun e=>by omega,fun e=>?_,fun e=>?_⟩
       · have k0:k = 0:=by omega
         have hq0:q = j:=by omega
         exact ⟨c,by rw [hq0]; exact HG.out,HXX.out,by rw [H0.out k0]; omega⟩
       have k1:k = 1:=by omega
       obtain ⟨d,g1,g2,g3⟩:=H1.out k1
       have hq1:q + 1 = j:=by omega
       exact ⟨d,c,g1,by rw [hq1]; exact HG.out,g2,HXX.out,by rw [g3]⟩
      case measure=>simp [intOf]; omega
    have HF:Hid ((0,0,31) = (B,K,X)):=by
     unfold Hid; rw [← HR.out,List.drop_eq_nil_of_le (by rw [aK]; omega)]; rfl
    obtain ⟨rfl,h2⟩:=Prod.mk.inj HF.out
    obtain ⟨rfl,rfl⟩:=Prod.mk.inj h2
    clear h2 HF HR
    go_wp2_with fail
    refine (zD s j j rfl (by omega) h _).mono ?_
    rintro e w2 ⟨rfl,rfl⟩
    go_wp2
    go_ret3
    exact ⟨rfl,BL.out⟩
  have hk2:k = 2:=by omega
  have hn0:n = 0:=by omega
  obtain ⟨d,e,g1,g2,g3,g4,g5⟩:=H2.out hk2
  subst hk2
  subst hn0
  have hq2:q + 2≤s.size:=by
   have:=(List.getElem?_eq_some_iff.1 g2).1
   rw [aK] at this; omega
  have HF:=hI HR.out
  obtain ⟨rfl,h2⟩:=Prod.mk.inj HF.out
  obtain ⟨rfl,rfl⟩:=Prod.mk.inj h2
  have hd15:dH d≤15:=by have:=pW d; omega
  have he15:dH e≤15:=by have:=pW e; omega
  have hacc:acc≤255:=by omega
  have G5:=hI g5.symm
  obtain ⟨t,ht⟩:∃ t,Hid (s.extract q (q + 2) = t):=⟨_,rfl⟩
  have HT:Hid (aD t = [d,e]):=by
   unfold Hid; rw [← ht.out,eM,show q + 2 - q = 2 by omega]
   obtain ⟨p1,q1⟩:=List.getElem?_eq_some_iff.1 g1
   obtain ⟨p2,q2⟩:=List.getElem?_eq_some_iff.1 g2
   rw [List.drop_eq_getElem_cons p1,q1,List.drop_eq_getElem_cons p2,q2]; rfl
  have hext:s.extract q (q + 2) = t:=ht.out
  have hj2:¬ (j:Int) < (q:Int) + 2:=by omega
  have G3:=hI g3
  have G4:=hI g4
  clear h2 HF HR g1 g2 g3 g4 g5 hd15 he15 H0 H1 H2 hj hji
  go_wp2_with fail
  refine (uX0 t d e HT.out G3.out G4.out acc G5.out _).mono ?_
  rintro e w2 ⟨rfl,hb2⟩
  have HB2:Hid (Below w.heap.size w w2):=cL BL.out hb2 (Nat.le_refl _)
  clear hb2
  go_wp2
  go_ret3
  exact ⟨lP (by first | rfl | simp) rfl rfl,HB2.out⟩
theorem rD0 (r:List Nat):jR (120 :: r) = mJ 2 0 r:=by
 match r with
 | []=>rfl
 | d :: r1 =>
  by_cases h:bM d = true
  · rw [qV0 d r1 h,rU _ _ _ _ h]
  have h':bM d = false:=by simpa using h
  by_cases hd:dH d = 16
  · rw [sM0 d r1 h' hd,uW _ _ _ _ h' hd]
  rw [aJ0 _ _ _ _ h' hd]
  match r1 with
  | []=>rw [sF0 d h' hd]; rfl
  | e :: r2 =>
   by_cases he:bM e = true
   · rw [qH0 d e r2 h' hd he,rU _ _ _ _ he]
   have he':bM e = false:=by simpa using he
   by_cases hx:dH e = 16
   · rw [nB0 d e r2 h' hd he' hx,uW _ _ _ _ he' hx]
   rw [uF0 d e r2 h' hd he' hx,aJ0 _ _ _ _ he' hx,mJ]
   simp
def mG (l:List Nat):Nat × Nat × Nat:=match l with | []=>(0,0,31) | c :: r=>if bM c then (0,0,31) else if c = 92 then jR r else (c,1,0)
theorem rB (c:Nat) (r:List Nat) (h:bM c = true):mG (c :: r) = (0,0,31):=by simp [mG,h]
theorem qQ (c:Nat) (r:List Nat) (h:bM c = false) (h2:¬ c = 92):mG (c :: r) = (c,1,0):=by simp [mG,h,h2]
theorem sT (r:List Nat):mG (92 :: r) = jR r:=by simp [mG,bM]
theorem pU (s:ByteArray) (y:Int) (p B K X:Nat) (hy:y = p) (hp:p≤s.size) (h:s.size≤1048576) (hR:mG ((aD s).drop p) = (B,K,X)) (w:World) :
    Calls Tryz.prog 154 #[.string s,.int .i64 y] w fun e w'=>e = .returned (.tuple #[.int .u8 (B:Int),.int .i64 (K:Int),.int .i64 (X:Int)])∧Below w.heap.size w w':=by
 subst hy
 have HR:=hI hR
 clear hR
 by_cases hin:p < s.size
 · have hdrop:=bY s p hin
   obtain ⟨c,hc⟩:=iQ ((s[p]'hin).toNat)
   rw [hc] at hdrop
   rw [hdrop] at HR
   clear hdrop
   by_cases he:bM c = true
   · have HE:Hid (bM c = true):=he
     have HF:Hid ((0,0,31) = (B,K,X)):=by unfold Hid; rw [← HR.out,rB _ _ he]
     clear he
     obtain ⟨rfl,h2⟩:=Prod.mk.inj HF.out
     obtain ⟨rfl,rfl⟩:=Prod.mk.inj h2
     clear h2 HF HR
     go_enter Tryz.func154,Tryz.ntmps154
     go_wp2_with fail
     refine (kJ s p p c rfl hin hc h true HE.out _).mono ?_
     rintro e w2 ⟨rfl,hb2⟩
     have HB2:=hI hb2
     clear hb2
     go_wp2
     go_ret3
     exact ⟨rfl,HB2.out⟩
   have HE:Hid (bM c = false):=by simpa [Hid] using he
   clear he
   by_cases h92:c = 92
   · subst h92
     have HR2:Hid (jR ((aD s).drop (p + 1)) = (B,K,X)):=by unfold Hid; rw [← HR.out,sT]
     clear HR
     by_cases hin2:p + 1 < s.size
     · have hdrop:=bY s (p + 1) hin2
       obtain ⟨d,hd⟩:=iQ ((s[p + 1]'hin2).toNat)
       rw [hd] at hdrop
       rw [hdrop] at HR2
       clear hdrop
       by_cases he:bM d = true
       · have HE2:Hid (bM d = true):=he
         have HF:Hid ((0,0,31) = (B,K,X)):=by unfold Hid; rw [← HR2.out,bX0 _ _ he]
         clear he
         obtain ⟨rfl,h2⟩:=Prod.mk.inj HF.out
         obtain ⟨rfl,rfl⟩:=Prod.mk.inj h2
         clear h2 HF HR2
         go_enter Tryz.func154,Tryz.ntmps154
         go_wp2_with fail
         refine (kJ s p p 92 rfl hin hc h false HE.out _).mono ?_
         rintro e w2 ⟨rfl,hb2⟩
         have HB2:=hI hb2
         clear hb2
         go_wp2_with fail
         refine (kJ s ((p:Int) + 1) (p + 1) d (by omega) hin2 hd h true HE2.out _).mono ?_
         rintro e w3 ⟨rfl,hb3⟩
         have HB3:Hid (Below w.heap.size w w3):=cL HB2.out hb3 (Nat.le_refl _)
         clear hb3
         go_wp2
         go_ret3
         exact ⟨rfl,HB3.out⟩
       have HE2:Hid (bM d = false):=by simpa [Hid] using he
       clear he
       by_cases hx:d = 120
       · subst hx
         have HF:Hid (mJ 2 0 ((aD s).drop (p + 2)) = (B,K,X)):=by unfold Hid; rw [← HR2.out,rD0]
         clear HR2
         go_enter Tryz.func154,Tryz.ntmps154
         go_wp2_with fail
         refine (kJ s p p 92 rfl hin hc h false HE.out _).mono ?_
         rintro e w2 ⟨rfl,hb2⟩
         have HB2:=hI hb2
         clear hb2
         go_wp2_with fail
         refine (kJ s ((p:Int) + 1) (p + 1) 120 (by omega) hin2 hd h false HE2.out _).mono ?_
         rintro e w3 ⟨rfl,hb3⟩
         have HB3:Hid (Below w.heap.size w w3):=cL HB2.out hb3 (Nat.le_refl _)
         clear hb3
         go_wp2_with fail
         refine (nY0 s ((p:Int) + 2) (p + 2) B K X (by omega) (by omega) h HF.out _).mono ?_
         rintro e w4 ⟨rfl,hb4⟩
         have HB4:Hid (Below w.heap.size w w4):=cL HB3.out hb4 (Nat.le_refl _)
         clear hb4
         go_wp2
         go_ret3
         exact ⟨rfl,HB4.out⟩
       have HD:Hid ((d = 34∧(34,2,0) = (B,K,X))∨(d = 92∧(92,2,0) = (B,K,X))∨(d = 110∧(10,2,0) = (B,K,X))∨(d = 116∧(9,2,0) = (B,K,X))∨(d = 114∧(13,2,0) = (B,K,X))∨(¬ d = 34∧¬ d = 92∧¬ d = 110∧¬ d = 116∧¬ d = 114∧(0,0,32) = (B,K,X))):=by
        unfold Hid
        rw [← HR2.out]
        by_cases h1:d = 34
        · subst h1; exact .inl ⟨rfl,rfl⟩
        by_cases h2:d = 92
        · subst h2; exact .inr (.inl ⟨rfl,rfl⟩)
        by_cases h3:d = 110
        · subst h3; exact .inr (.inr (.inl ⟨rfl,rfl⟩))
        by_cases h4:d = 116
        · subst h4; exact .inr (.inr (.inr (.inl ⟨rfl,rfl⟩)))
        by_cases h5:d = 114
        · subst h5; exact .inr (.inr (.inr (.inr (.inl ⟨rfl,rfl⟩))))
        exact .inr (.inr (.inr (.inr (.inr ⟨h1,h2,h3,h4,h5,(yJ d _ HE2.out h1 h2 h3 h4 h5 hx).symm⟩))))
       clear HR2
       rcases HD.out with ⟨rfl,q⟩ | ⟨rfl,q⟩ | ⟨rfl,q⟩ | ⟨rfl,q⟩ | ⟨rfl,q⟩ | ⟨n1,n2,n3,n4,n5,q⟩
       case inr.inr.inr.inr.inr =>
        obtain ⟨rfl,q2⟩:=Prod.mk.inj q
        obtain ⟨rfl,rfl⟩:=Prod.mk.inj q2
        have e1:((d:Int) == 34) = false:=by simp; omega
        have e2:((d:Int) == 92) = false:=by simp; omega
        have e3:((d:Int) == 110) = false:=by simp; omega
        have e4:((d:Int) == 116) = false:=by simp; omega
        have e5:((d:Int) == 114) = false:=by simp; omega
        have e6:((d:Int) == 120) = false:=by simp; omega
        clear q q2 HD hx n1 n2 n3 n4 n5
        go_enter Tryz.func154,Tryz.ntmps154
        go_wp2_with fail
        refine (kJ s p p 92 rfl hin hc h false HE.out _).mono ?_
        rintro e w2 ⟨rfl,hb2⟩
        have HB2:=hI hb2
        clear hb2
        go_wp2_with fail
        refine (kJ s ((p:Int) + 1) (p + 1) d (by omega) hin2 hd h false HE2.out _).mono ?_
        rintro e w3 ⟨rfl,hb3⟩
        have HB3:Hid (Below w.heap.size w w3):=cL HB2.out hb3 (Nat.le_refl _)
        clear hb3
        go_wp2
        go_ret3
        exact ⟨rfl,HB3.out⟩
       all_goals
        obtain ⟨rfl,q2⟩:=Prod.mk.inj q
        obtain ⟨rfl,rfl⟩:=Prod.mk.inj q2
        clear q q2 HD hx
        go_enter Tryz.func154,Tryz.ntmps154
        go_wp2_with fail
        refine (kJ s p p 92 rfl hin hc h false HE.out _).mono ?_
        rintro e w2 ⟨rfl,hb2⟩
        have HB2:=hI hb2
        clear hb2
        go_wp2_with fail
        refine (kJ s ((p:Int) + 1) (p + 1) _ (by omega) hin2 hd h false HE2.out _).mono ?_
        rintro e w3 ⟨rfl,hb3⟩
        have HB3:Hid (Below w.heap.size w w3):=cL HB2.out hb3 (Nat.le_refl _)
        clear hb3
        go_wp2
        go_ret3
        exact ⟨rfl,HB3.out⟩
     have HF:Hid ((0,0,31) = (B,K,X)):=by
      unfold Hid; rw [← HR2.out,List.drop_eq_nil_of_le (by rw [aK]; omega)]; rfl
     obtain ⟨rfl,h2⟩:=Prod.mk.inj HF.out
     obtain ⟨rfl,rfl⟩:=Prod.mk.inj h2
     clear h2 HF HR2
     go_enter Tryz.func154,Tryz.ntmps154
     go_wp2_with fail
     refine (kJ s p p 92 rfl hin hc h false HE.out _).mono ?_
     rintro e w2 ⟨rfl,hb2⟩
     have HB2:=hI hb2
     clear hb2
     go_wp2_with fail
     refine (zD s ((p:Int) + 1) (p + 1) (by omega) (by omega) h _).mono ?_
     rintro e w3 ⟨rfl,rfl⟩
     go_wp2
     go_ret3
     exact ⟨rfl,HB2.out⟩
   have HF:Hid ((c,1,0) = (B,K,X)):=by unfold Hid; rw [← HR.out,qQ _ _ HE.out h92]
   obtain ⟨rfl,h2⟩:=Prod.mk.inj HF.out
   obtain ⟨rfl,rfl⟩:=Prod.mk.inj h2
   have e1:((c:Int) != 92) = true:=by simp; omega
   clear h2 HF HR h92
   go_enter Tryz.func154,Tryz.ntmps154
   go_wp2_with fail
   refine (kJ s p p c rfl hin hc h false HE.out _).mono ?_
   rintro e w2 ⟨rfl,hb2⟩
   have HB2:=hI hb2
   clear hb2
   go_wp2
   go_ret3
   exact ⟨rfl,HB2.out⟩
 have HF:Hid ((0,0,31) = (B,K,X)):=by
  unfold Hid; rw [← HR.out,List.drop_eq_nil_of_le (by rw [aK]; omega)]; rfl
 obtain ⟨rfl,h2⟩:=Prod.mk.inj HF.out
 obtain ⟨rfl,rfl⟩:=Prod.mk.inj h2
 clear h2 HF HR
 go_enter Tryz.func154,Tryz.ntmps154
 go_wp2_with fail
 refine (zD s p p rfl (by omega) h _).mono ?_
 rintro e w2 ⟨rfl,rfl⟩
 go_wp2
 go_ret3
 exact ⟨rfl,Below.refl _ _⟩
theorem aC {P:Program} {fn:Func} {R:Ending→World→Prop} {a:Act} {w:World} {p:Tmp} {ty:TypeId} {g:Nat} {t:TypeId} {cs:Array Value} {fr:Nat × Nat} {d:TypeDesc} (h:fn.results = #[.cell p ty])
    (hp:a.tmps.getD p undef = .pointer (some ⟨g,0,none⟩)) (hd:a.defers = []) (hg:w.heap[g]? = some (.cells cs t fr))
    (hu:P.underlying ty = some d) (hd2:(match d with | .struct _ | .array _ _=>true | _=>false) = true) (hi:(P.info? ty).map (·.size) = some cs.size)
    (hR:R (.returned (.agg cs)) w):bodyPost P fn R .ret a w:=by
 refine bodyPost_ret ?_ hd hR
 have hp':a.tmps[p]?.getD undef = .pointer (some ⟨g,0,none⟩):=by simpa using hp
 simp [results,h,hp',asAddr,run_loadVar_row w g t ty cs fr d hg hu hd2 hi]
theorem dR (w:World) (g:Nat) (a0 a1 a2 a3 a4 a5 a6 b0 b1 b2 b3 b4 b5 b6:Value) (t:TypeId) (fr:Nat × Nat) (h:w.heap[g]? = some (.cells #[a0,a1,a2,a3,a4,a5,a6] t fr)) :
    (((((((w.setCell ⟨g,0,none⟩ b0).setCell ⟨g,1,none⟩ b1).setCell ⟨g,2,none⟩ b2).setCell ⟨g,3,none⟩ b3).setCell ⟨g,4,none⟩ b4).setCell ⟨g,5,none⟩ b5).setCell ⟨g,6,none⟩ b6).heap[g]? = some (.cells #[b0,b1,b2,b3,b4,b5,b6] t fr):=by
 have h0:=gA w g 0 _ t fr b0 h
 have h1:=gA _ g 1 _ t fr b1 h0
 have h2:=gA _ g 2 _ t fr b2 h1
 have h3:=gA _ g 3 _ t fr b3 h2
 have h4:=gA _ g 4 _ t fr b4 h3
 have h5:=gA _ g 5 _ t fr b5 h4
 have h6:=gA _ g 6 _ t fr b6 h5
 rw [h6]
 rfl
theorem dT {w0 w:World} {g B:Nat} {b0 b1 b2 b3 b4 b5 b6:Value} (h:Below B w0 w) (hg:B≤g) :
    Below B w0 (((((((w.setCell ⟨g,0,none⟩ b0).setCell ⟨g,1,none⟩ b1).setCell ⟨g,2,none⟩ b2).setCell ⟨g,3,none⟩ b3).setCell ⟨g,4,none⟩ b4).setCell ⟨g,5,none⟩ b5).setCell ⟨g,6,none⟩ b6) :=
 ((((((h.setCell (p:=⟨g,0,none⟩) hg _).setCell (p:=⟨g,1,none⟩) hg _).setCell (p:=⟨g,2,none⟩) hg _).setCell (p:=⟨g,3,none⟩) hg _).setCell (p:=⟨g,4,none⟩) hg _).setCell (p:=⟨g,5,none⟩) hg _).setCell (p:=⟨g,6,none⟩) hg _
def dM : Obj:=.cells #[.int .u8 0,.string ⟨#[]⟩,.int .u64 0,.int .i64 0,.int .i64 0,.int .i64 0,.int .i64 0] 86
theorem eY0 {w w2:World} {g:Nat} (hg:g = w.heap.size) (hb:Below (w.alloc dM).heap.size (w.alloc dM) w2):w2.heap[g]? = some dM∧g < w2.heap.size∧Below g w w2:=by
 have hs:(w.alloc dM).heap.size = w.heap.size + 1:=Array.size_push _
 refine ⟨?_,?_,?_⟩
 · rw [hb.block g (by omega),hg]; exact heap_alloc_new w _
 · have:=hb.size; omega
 exact ((Below.refl g w).alloc (by omega) _).trans (hb.mono (by omega))
def fJ (kd n a b:Int) (x:ByteArray):Value:=.agg #[.int .u8 kd,.string x,.int .u64 n,.int .i64 a,.int .i64 b,.int .i64 0,.int .i64 0]
def eP (a pl e:Int):Value:=.agg #[.int .u8 0,.string ⟨#[]⟩,.int .u64 0,.int .i64 a,.int .i64 0,.int .i64 e,.int .i64 pl]
def fN (p:Nat) (o:Except (Nat × Nat) (Nat × List Nat × Nat × Nat)):Value :=
 match o with
 | .ok (kd,tx,n,len)=>fJ kd n p ((p + len:Nat):Int) (bJ tx)
 | .error (q,e)=>eP p ((p + q:Nat):Int) e
theorem kZ (a pl e:Int) (w:World):Calls Tryz.prog 136 #[.int .i64 a,.int .i64 pl,.int .i64 e] w fun e' w'=>e' = .returned (eP a pl e)∧Below w.heap.size w w':=by
 go_enter Tryz.func136,Tryz.ntmps136
 go_wp2
 refine aC (g:=w.heap.size) (t:=86) rfl rfl rfl (heap_alloc_new w _) Tryz.underlying86 rfl (by kernel_rfl) ?_
 exact ⟨rfl,(Below.refl _ _).alloc (Nat.le_refl _) _⟩
theorem yY (kd:Int) (s:ByteArray) (a b:Nat) (ya yb:Int) (x:ByteArray) (hya:ya = a) (hyb:yb = b) (hab:a≤b) (hb:b≤s.size) (h:s.size≤1048576) (hx:s.extract a b = x) (w:World) :
    Calls Tryz.prog 132 #[.int .u8 kd,.string s,.int .i64 ya,.int .i64 yb] w fun e w'=>e = .returned (fJ kd 0 a b x)∧Below w.heap.size w w':=by
 subst hya; subst hyb
 have hxs:x.size≤1048576:=by
  have:=congrArg List.length (eM s a b)
  rw [hx,aK,List.length_take,List.length_drop,aK] at this
  omega
 obtain ⟨g,hg⟩:∃ g,g = w.heap.size:=⟨_,rfl⟩
 have HG:=hI hg
 go_enter Tryz.func132,Tryz.ntmps132
 go_wp2_with fail
 refine (gG0 x hxs _).mono ?_
 rintro e w2 ⟨rfl,hb2⟩
 rw [← hg]
 clear hg
 obtain ⟨hblk,hgs,BW⟩:=eY0 HG.out hb2
 have BW:=hI BW
 unfold dM at hblk
 have c0:w2.cell? ⟨g,0,none⟩ = some (.int .u8 0):=cell_of_row _ g 0 _ _ _ hblk
 have c1:w2.cell? ⟨g,1,none⟩ = some (.string ⟨#[]⟩):=cell_of_row _ g 1 _ _ _ hblk
 have c2:w2.cell? ⟨g,2,none⟩ = some (.int .u64 0):=cell_of_row _ g 2 _ _ _ hblk
 have c3:w2.cell? ⟨g,3,none⟩ = some (.int .i64 0):=cell_of_row _ g 3 _ _ _ hblk
 have c4:w2.cell? ⟨g,4,none⟩ = some (.int .i64 0):=cell_of_row _ g 4 _ _ _ hblk
 have c5:w2.cell? ⟨g,5,none⟩ = some (.int .i64 0):=cell_of_row _ g 5 _ _ _ hblk
 have c6:w2.cell? ⟨g,6,none⟩ = some (.int .i64 0):=cell_of_row _ g 6 _ _ _ hblk
 have f0:∀ j,w2.frozen? ⟨g,j,none⟩ = false:=fun j=>by simp [World.frozen?,hblk]
 have HBK:=hI hblk
 clear hblk hb2
 go_wp2
 refine aC (g:=g) (t:=86) rfl rfl rfl (dR _ _ _ _ _ _ _ _ _ _ _ _ _ _ _ _ _ _ HBK.out) Tryz.underlying86 rfl (by kernel_rfl) ?_
 exact ⟨rfl,by rw [← HG.out]; exact dT BW.out (Nat.le_refl _)⟩
theorem vR0 (s:ByteArray) (l:List UInt8) (h:(s.toList == l) = true) (hl:l.map UInt8.toNat ∈ qH):true = kC (aD s):=by
 rw [fX] at h
 have e:aD s = l.map UInt8.toNat:=by simpa using h
 unfold kC
 rw [e,decide_eq_true hl]
theorem lZ0 (s:ByteArray) (h:∀ l ∈ qJ,(s.toList == l.data.toList) = false):false = kC (aD s):=by
 unfold kC
 rw [eq_comm,decide_eq_false_iff_not,← yP,List.mem_map]
 rintro ⟨x,hx,he⟩
 have h1:=h x hx
 rw [fX] at h1
 have h2:¬ aD s = x.data.toList.map UInt8.toNat:=by simpa using h1
 exact h2 he.symm
theorem pU0 (s:ByteArray) (b:Bool) (hb:kC (aD s) = b) (w:World) :
    Calls Tryz.prog 129 #[.string s] w fun e w'=>e = .returned (.bool b)∧Below w.heap.size w w':=by
 subst hb
 go_enter Tryz.func129,Tryz.ntmps129
 go_wp2
 all_goals (go_ret; refine ⟨aW ?_,Below.refl _ _⟩)
 all_goals first
  | exact vR0 s _ (by assumption) (by decide)
  | (exfalso; rename_i h1 h2; rw [h1] at h2; cases h2; done)
  | (refine lZ0 s ?_; intro l hl; simp only [qJ,List.mem_cons,List.not_mem_nil,or_false] at hl; rcases hl with rfl | rfl | rfl | rfl | rfl | rfl | rfl | rfl | rfl | rfl | rfl | rfl | rfl | rfl | rfl | rfl | rfl | rfl | rfl | rfl | rfl | rfl | rfl | rfl | rfl | rfl | rfl <;> assumption)
theorem cV0 (s:ByteArray) (b:Bool) (h:s.size≤1048576) (hb:jZ (aD s) = b) (w:World) :
    Calls Tryz.prog 100 #[.string s] w fun e w'=>e = .returned (.bool b)∧Below w.heap.size w w':=by
 by_cases h0:s.size = 0
 · obtain rfl:=qD0 s h0
   have HF:Hid (false = b):=by unfold Hid; rw [← hb]; rfl
   clear hb h0
   go_enter Tryz.func100,Tryz.ntmps100
   go_wp2
   go_ret
   exact ⟨aW HF.out,Below.refl _ _⟩
 have hp:0 < s.size:=by omega
 have hne:(s.toList == []) = false:=by
  rw [ByteArray.toList_eq,beq_eq_false_iff_ne]
  intro q
  have h1:aD s = []:=by unfold aD; rw [q]; rfl
  have h2:=aK s
  rw [h1] at h2
  simp at h2; omega
 obtain ⟨c,hc⟩:=iQ ((s[0]'hp).toNat)
 have hd:=bY s 0 hp
 rw [hc,List.drop_zero] at hd
 have hnm:jZ (aD s) = (bO c && decide (fL (aD s) = (aD s).length) && !kC (aD s)):=by
  rw [hd]; rfl
 have HNM:Hid ((bO c && decide (fL (aD s) = (aD s).length) && !kC (aD s)) = b):=by unfold Hid; rw [← hnm]; exact hb
 clear hd hnm hb h0
 by_cases hl:bO c = true
 · have HL:Hid (bO c = true):=hl
   clear hl
   obtain ⟨E,hE⟩:∃ E,Hid (0 + fL ((aD s).drop 0) = E):=⟨_,rfl⟩
   have hk2:∀ w:World,qA ((w.alloc (.cells #[.int .u8 1] 114)).alloc (.cells #[.int .u8 1,.int .u8 2] 114)) (w.heap.size + 1) [1,2]:=by
    intro w
    have:=sY (w.alloc (.cells #[.int .u8 1] 114)) 1 2 (by omega) (by omega) 1 2 rfl rfl 114
    rwa [World.size_alloc] at this
   have HK2:Hid _:=hk2
   have hb2:Below w.heap.size w ((w.alloc (.cells #[.int .u8 1] 114)).alloc (.cells #[.int .u8 1,.int .u8 2] 114)):=((Below.refl _ _).alloc (Nat.le_refl _) _).alloc (by simp) _
   have HB2:Hid _:=hb2
   clear hk2 hb2
   by_cases hw:E = s.size
   · have HW:Hid (decide (fL (aD s) = (aD s).length) = true):=by
      unfold Hid; have:=hE.out; rw [List.drop_zero,Nat.zero_add] at this; rw [this,aK]; simp [hw]
     obtain ⟨k,hk⟩:∃ k,Hid (kC (aD s) = k):=⟨_,rfl⟩
     have HR:Hid ((!k) = b):=by unfold Hid; rw [← HNM.out,HL.out,HW.out,hk.out]; rfl
     have heq:((E:Int) == (s.size:Int)) = true:=by simp [hw]
     have HWE:=hI hw
     clear hw
     go_enter Tryz.func100,Tryz.ntmps100
     go_wp2_with fail
     refine (eW [1] w.heap.size 1 c _ rfl (by omega) true (by rw [bZ0]; exact HL.out) (lM w 1 (by omega) 1 rfl _)).mono ?_
     rintro e wx ⟨rfl,rfl⟩
     go_wp2_with fail
     refine (gY s 0 0 E [1,2] (w.heap.size + 1) 2 _ rfl (by omega) h rfl (by omega) (by rw [aY0]; exact hE.out) (HK2.out w)).mono ?_
     rintro e wx ⟨rfl,rfl⟩
     go_wp2_with fail
     refine (pU0 s k hk.out _).mono ?_
     rintro e w2 ⟨rfl,hb2⟩
     go_wp2
     go_ret
     exact ⟨aW HR.out,cL HB2.out hb2 (Nat.le_refl _)⟩
   have HR:Hid (false = b):=by
    unfold Hid; rw [← HNM.out]
    have:=hE.out; rw [List.drop_zero,Nat.zero_add] at this
    rw [this,aK]; simp [hw]
   have heq:((E:Int) == (s.size:Int)) = false:=by simp; omega
   go_enter Tryz.func100,Tryz.ntmps100
   go_wp2_with fail
   refine (eW [1] w.heap.size 1 c _ rfl (by omega) true (by rw [bZ0]; exact HL.out) (lM w 1 (by omega) 1 rfl _)).mono ?_
   rintro e wx ⟨rfl,rfl⟩
   go_wp2_with fail
   refine (gY s 0 0 E [1,2] (w.heap.size + 1) 2 _ rfl (by omega) h rfl (by omega) (by rw [aY0]; exact hE.out) (HK2.out w)).mono ?_
   rintro e wx ⟨rfl,rfl⟩
   go_wp2
   go_ret
   exact ⟨aW HR.out,HB2.out⟩
 have HL:Hid (bO c = false):=by simpa [Hid] using hl
 have HR:Hid (false = b):=by unfold Hid; rw [← HNM.out,HL.out]; rfl
 clear hl
 go_enter Tryz.func100,Tryz.ntmps100
 go_wp2_with fail
 refine (eW [1] w.heap.size 1 c _ rfl (by omega) false (by rw [bZ0]; exact HL.out) (lM w 1 (by omega) 1 rfl _)).mono ?_
 rintro e wx ⟨rfl,rfl⟩
 go_wp2
 go_ret
 exact ⟨aW HR.out,(Below.refl _ _).alloc (Nat.le_refl _) _⟩
end Go.Proofs.YtnipenijihkgdaaGreatDoor
