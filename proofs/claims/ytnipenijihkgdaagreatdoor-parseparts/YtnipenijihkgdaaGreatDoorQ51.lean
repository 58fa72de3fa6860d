import Derived.Test.YtnipenijihkgdaaGreatDoorNd
import Derived.Test.YtnipenijihkgdaaGreatDoorQ50
set_option maxHeartbeats 8000000
set_option maxRecDepth 100000
namespace Go.Proofs.YtnipenijihkgdaaGreatDoor
open Go.RowKit
set_option linter.unusedVariables false
theorem kJ0 : Gs (R dW).expr aO:=(gN0 300000 (Nat.le_refl _)).2.2.1
theorem qL0 : Gs (R dW).typ aO:=(gN0 300000 (Nat.le_refl _)).1
theorem tT (s:ByteArray) (w:World) (hmax:s.size≤maxLen) (HL:Hid (jM w)):Calls Tryz.prog 4 #[.string s] w fun e w'=>e = .returned (.bool true)∧Below w.heap.size w w':=by
 have hma:s.size≤9223372036854775807:=hmax
 clear hmax
 by_cases hA:8192 < s.size
 · have hA2:(8192:Int) < (s.size:Int):=by omega
   go_enter Tryz.func4,Tryz.ntmps4
   go_wp2
   go_ret
   exact ⟨rfl,Below.refl _ _⟩
 have hA2:¬ (8192:Int) < (s.size:Int):=by omega
 have hA3:s.size≤1048576:=by omega
 obtain ⟨X,hX⟩:=mQ0 (aD s) (dO s)
 obtain ⟨Y,hY⟩:=nF0 (aD s) (dO s)
 have HX:=hI hX
 have HY:=hI hY
 have HGx:Hid (aO (tF X)):=pM kJ0 (dO s) hX
 have HGy:Hid (aO (tF Y)):=pM qL0 (dO s) hY
 obtain ⟨tx,htx⟩:=iQ (tF X)
 obtain ⟨px,hpx⟩:=iQ (aK0 X)
 obtain ⟨ex,hex⟩:=iQ (vZ0 X)
 obtain ⟨ty,hty⟩:=iQ (tF Y)
 obtain ⟨py,hpy⟩:=iQ (aK0 Y)
 obtain ⟨ey,hey⟩:=iQ (vZ0 Y)
 rw [htx] at HGx
 rw [hty] at HGy
 have hb0:Below w.heap.size w w:=Below.refl _ _
 have hL0:jM w:=HL.out
 clear hX hY hA
 go_enter Tryz.func4,Tryz.ntmps4
 go_wp2_with fail
 refine (uH s hA3 X HX w hL0).mono ?_
 rintro en w1 hr
 obtain ⟨hbr,k1,a1,b1,n1,v1,rfl,hN⟩:=tB hr
 rw [htx] at hN
 rw [hpx,hex]
 obtain ⟨ao1,cap1,rfl⟩:=hN.q.shape
 obtain ⟨m1,hm1⟩:=iQ (tx.kids.length)
 rw [hm1] at hN ⊢
 have q1:aZ w1 (fun g=>w.heap.size≤g∧g < w1.heap.size) tx k1 a1 b1 n1 (.slice ao1 m1 cap1):=hN.q.imp fun g h1 h2=>⟨h2,h1⟩
 have hs1:=hbr.size
 have hb1:Below w.heap.size w w1:=hb0.trans (hbr.mono hb0.size)
 clear hr hN hbr
 go_upto_region 4 with fail
 have o1:=Own.new w1 (nD k1 a1 b1 n1 (.slice ao1 m1 cap1)) 25
 have hbx:Below w1.heap.size w1 (w1.alloc (.cells (nD k1 a1 b1 n1 (.slice ao1 m1 cap1)) 25)):=(Below.refl _ _).alloc (Nat.le_refl _) _
 generalize w1.alloc _ = w2 at o1 hbx ⊢
 have hs2:=o1.lt
 replace q1:=q1.on fun _ _ _ o=>o.below hbx
 have hb2:Below w.heap.size w w2:=hb1.trans (hbx.mono hb1.size)
 have hL2:=HL.out.on hb2
 clear hbx
 go_wp2_with fail
 refine (uH s hA3 X HX w2 hL2).mono ?_
 rintro en w3 hr
 obtain ⟨hbr,k2,a2,b2,n2,v2,rfl,hN⟩:=tB hr
 rw [htx] at hN
 rw [hpx,hex]
 obtain ⟨ao2,cap2,rfl⟩:=hN.q.shape
 obtain ⟨m2,hm2⟩:=iQ (tx.kids.length)
 rw [hm2] at hN ⊢
 have q2:aZ w3 (fun g=>w2.heap.size≤g∧g < w3.heap.size) tx k2 a2 b2 n2 (.slice ao2 m2 cap2):=hN.q.imp fun g h1 h2=>⟨h2,h1⟩
 have hs3:=hbr.size
 replace o1:=o1.below hbr
 replace q1:=q1.on fun _ _ _ o=>o.below hbr
 have hb3:Below w.heap.size w w3:=hb2.trans (hbr.mono hb2.size)
 clear hr hN hbr
 go_upto_region 5 with fail
 have o2:=Own.new w3 (nD k2 a2 b2 n2 (.slice ao2 m2 cap2)) 25
 have hbx:Below w3.heap.size w3 (w3.alloc (.cells (nD k2 a2 b2 n2 (.slice ao2 m2 cap2)) 25)):=(Below.refl _ _).alloc (Nat.le_refl _) _
 generalize w3.alloc _ = w4 at o2 hbx ⊢
 have hs4:=o2.lt
 replace o1:=o1.below hbx
 replace q1:=q1.on fun _ _ _ o=>o.below hbx
 replace q2:=q2.on fun _ _ _ o=>o.below hbx
 have hb4:Below w.heap.size w w4:=hb3.trans (hbx.mono hb3.size)
 have hL4:=HL.out.on hb4
 clear hbx
 go_wp2_with fail
 refine (vD0 s hA3 Y HY w4 hL4).mono ?_
 rintro en w5 hr
 obtain ⟨hbr,k3,a3,b3,n3,v3,rfl,hN⟩:=tB hr
 rw [hty] at hN
 rw [hpy,hey]
 obtain ⟨ao3,cap3,rfl⟩:=hN.q.shape
 obtain ⟨m3,hm3⟩:=iQ (ty.kids.length)
 rw [hm3] at hN ⊢
 have q3:aZ w5 (fun g=>w4.heap.size≤g∧g < w5.heap.size) ty k3 a3 b3 n3 (.slice ao3 m3 cap3):=hN.q.imp fun g h1 h2=>⟨h2,h1⟩
 have hs5:=hbr.size
 replace o1:=o1.below hbr
 replace o2:=o2.below hbr
 replace q1:=q1.on fun _ _ _ o=>o.below hbr
 replace q2:=q2.on fun _ _ _ o=>o.below hbr
 have hb5:Below w.heap.size w w5:=hb4.trans (hbr.mono hb4.size)
 clear hr hN hbr
 go_upto_region 6 with fail
 have o3:=Own.new w5 (nD k3 a3 b3 n3 (.slice ao3 m3 cap3)) 25
 have hbx:Below w5.heap.size w5 (w5.alloc (.cells (nD k3 a3 b3 n3 (.slice ao3 m3 cap3)) 25)):=(Below.refl _ _).alloc (Nat.le_refl _) _
 generalize w5.alloc _ = w6 at o3 hbx ⊢
 have hs6:=o3.lt
 replace o1:=o1.below hbx
 replace o2:=o2.below hbx
 replace q1:=q1.on fun _ _ _ o=>o.below hbx
 replace q2:=q2.on fun _ _ _ o=>o.below hbx
 replace q3:=q3.on fun _ _ _ o=>o.below hbx
 have hb6:Below w.heap.size w w6:=hb5.trans (hbx.mono hb5.size)
 have hL6:=HL.out.on hb6
 clear hbx
 go_wp2_with fail
 refine (mY0 s hA3 X HX w6).mono ?_
 rintro en w7 hr
 obtain ⟨hbr,k4,a4,b4,n4,v4,rfl,hN⟩:=tB hr
 rw [htx] at hN
 rw [hpx,hex]
 obtain ⟨ao4,cap4,rfl⟩:=hN.q.shape
 obtain ⟨m4,hm4⟩:=iQ (tx.kids.length)
 rw [hm4] at hN ⊢
 have q4:aZ w7 (fun g=>w6.heap.size≤g∧g < w7.heap.size) tx k4 a4 b4 n4 (.slice ao4 m4 cap4):=hN.q.imp fun g h1 h2=>⟨h2,h1⟩
 have hs7:=hbr.size
 replace o1:=o1.below hbr
 replace o2:=o2.below hbr
 replace o3:=o3.below hbr
 replace q1:=q1.on fun _ _ _ o=>o.below hbr
 replace q2:=q2.on fun _ _ _ o=>o.below hbr
 replace q3:=q3.on fun _ _ _ o=>o.below hbr
 have hb7:Below w.heap.size w w7:=hb6.trans (hbr.mono hb6.size)
 clear hr hN hbr
 go_upto_region 7 with fail
 have o4:=Own.new w7 (nD k4 a4 b4 n4 (.slice ao4 m4 cap4)) 25
 have hbx:Below w7.heap.size w7 (w7.alloc (.cells (nD k4 a4 b4 n4 (.slice ao4 m4 cap4)) 25)):=(Below.refl _ _).alloc (Nat.le_refl _) _
 generalize w7.alloc _ = w8 at o4 hbx ⊢
 have hs8:=o4.lt
 replace o1:=o1.below hbx
 replace o2:=o2.below hbx
 replace o3:=o3.below hbx
 replace q1:=q1.on fun _ _ _ o=>o.below hbx
 replace q2:=q2.on fun _ _ _ o=>o.below hbx
 replace q3:=q3.on fun _ _ _ o=>o.below hbx
 replace q4:=q4.on fun _ _ _ o=>o.below hbx
 have hb8:Below w.heap.size w w8:=hb7.trans (hbx.mono hb7.size)
 have hL8:=HL.out.on hb8
 clear hbx
 go_wp2_with fail
 refine (tN0 s hA3 Y HY w8).mono ?_
 rintro en w9 hr
 obtain ⟨hbr,k5,a5,b5,n5,v5,rfl,hN⟩:=tB hr
 rw [hty] at hN
 rw [hpy,hey]
 obtain ⟨ao5,cap5,rfl⟩:=hN.q.shape
 obtain ⟨m5,hm5⟩:=iQ (ty.kids.length)
 rw [hm5] at hN ⊢
 have q5:aZ w9 (fun g=>w8.heap.size≤g∧g < w9.heap.size) ty k5 a5 b5 n5 (.slice ao5 m5 cap5):=hN.q.imp fun g h1 h2=>⟨h2,h1⟩
 have hs9:=hbr.size
 replace o1:=o1.below hbr
 replace o2:=o2.below hbr
 replace o3:=o3.below hbr
 replace o4:=o4.below hbr
 replace q1:=q1.on fun _ _ _ o=>o.below hbr
 replace q2:=q2.on fun _ _ _ o=>o.below hbr
 replace q3:=q3.on fun _ _ _ o=>o.below hbr
 replace q4:=q4.on fun _ _ _ o=>o.below hbr
 have hb9:Below w.heap.size w w9:=hb8.trans (hbr.mono hb8.size)
 clear hr hN hbr
 go_upto_region 8 with fail
 have o5:=Own.new w9 (nD k5 a5 b5 n5 (.slice ao5 m5 cap5)) 25
 have hbx:Below w9.heap.size w9 (w9.alloc (.cells (nD k5 a5 b5 n5 (.slice ao5 m5 cap5)) 25)):=(Below.refl _ _).alloc (Nat.le_refl _) _
 generalize w9.alloc _ = w10 at o5 hbx ⊢
 have hs10:=o5.lt
 replace o1:=o1.below hbx
 replace o2:=o2.below hbx
 replace o3:=o3.below hbx
 replace o4:=o4.below hbx
 replace q1:=q1.on fun _ _ _ o=>o.below hbx
 replace q2:=q2.on fun _ _ _ o=>o.below hbx
 replace q3:=q3.on fun _ _ _ o=>o.below hbx
 replace q4:=q4.on fun _ _ _ o=>o.below hbx
 replace q5:=q5.on fun _ _ _ o=>o.below hbx
 have hb10:Below w.heap.size w w10:=hb9.trans (hbx.mono hb9.size)
 have hL10:=HL.out.on hb10
 clear hbx
 obtain ⟨o10,o11,o12,o13,o14,o1f⟩:=o1.five
 have o1l:=o1.lt
 obtain ⟨o20,o21,o22,o23,o24,o2f⟩:=o2.five
 have o2l:=o2.lt
 obtain ⟨o30,o31,o32,o33,o34,o3f⟩:=o3.five
 have o3l:=o3.lt
 obtain ⟨o40,o41,o42,o43,o44,o4f⟩:=o4.five
 have o4l:=o4.lt
 obtain ⟨o50,o51,o52,o53,o54,o5f⟩:=o5.five
 have o5l:=o5.lt
 go_wp2_with fail
 refine (rD w10 _ _ _ _ _ _ _ _ _ _ px ex (q1.imp (Q':=fun g=>0≤g) fun g _ _=>Nat.zero_le g).is.rd (q4.imp (Q':=fun g=>0≤g) fun g _ _=>Nat.zero_le g).is.rd).mono ?_
 rintro en w11 ⟨rfl,hbr⟩
 clear o10 o11 o12 o13 o14 o1f o1l o20 o21 o22 o23 o24 o2f o2l o30 o31 o32 o33 o34 o3f o3l o40 o41 o42 o43 o44 o4f o4l o50 o51 o52 o53 o54 o5f o5l
 have hs11:=hbr.size
 replace o1:=o1.below hbr
 replace o2:=o2.below hbr
 replace o3:=o3.below hbr
 replace o4:=o4.below hbr
 replace o5:=o5.below hbr
 replace q1:=q1.on fun _ _ _ o=>o.below hbr
 replace q2:=q2.on fun _ _ _ o=>o.below hbr
 replace q3:=q3.on fun _ _ _ o=>o.below hbr
 replace q4:=q4.on fun _ _ _ o=>o.below hbr
 replace q5:=q5.on fun _ _ _ o=>o.below hbr
 have hb11:Below w.heap.size w w11:=hb10.trans (hbr.mono hb10.size)
 clear hbr
 obtain ⟨o10,o11,o12,o13,o14,o1f⟩:=o1.five
 have o1l:=o1.lt
 obtain ⟨o20,o21,o22,o23,o24,o2f⟩:=o2.five
 have o2l:=o2.lt
 obtain ⟨o30,o31,o32,o33,o34,o3f⟩:=o3.five
 have o3l:=o3.lt
 obtain ⟨o40,o41,o42,o43,o44,o4f⟩:=o4.five
 have o4l:=o4.lt
 obtain ⟨o50,o51,o52,o53,o54,o5f⟩:=o5.five
 have o5l:=o5.lt
 go_wp2_with fail
 refine (rD w11 _ _ _ _ _ _ _ _ _ _ px ex (q2.imp (Q':=fun g=>0≤g) fun g _ _=>Nat.zero_le g).is.rd (q4.imp (Q':=fun g=>0≤g) fun g _ _=>Nat.zero_le g).is.rd).mono ?_
 rintro en w12 ⟨rfl,hbr⟩
 clear o10 o11 o12 o13 o14 o1f o1l o20 o21 o22 o23 o24 o2f o2l o30 o31 o32 o33 o34 o3f o3l o40 o41 o42 o43 o44 o4f o4l o50 o51 o52 o53 o54 o5f o5l
 have hs12:=hbr.size
 replace o1:=o1.below hbr
 replace o2:=o2.below hbr
 replace o3:=o3.below hbr
 replace o4:=o4.below hbr
 replace o5:=o5.below hbr
 replace q1:=q1.on fun _ _ _ o=>o.below hbr
 replace q2:=q2.on fun _ _ _ o=>o.below hbr
 replace q3:=q3.on fun _ _ _ o=>o.below hbr
 replace q4:=q4.on fun _ _ _ o=>o.below hbr
 replace q5:=q5.on fun _ _ _ o=>o.below hbr
 have hb12:Below w.heap.size w w12:=hb11.trans (hbr.mono hb11.size)
 clear hbr
 obtain ⟨o10,o11,o12,o13,o14,o1f⟩:=o1.five
 have o1l:=o1.lt
 obtain ⟨o20,o21,o22,o23,o24,o2f⟩:=o2.five
 have o2l:=o2.lt
 obtain ⟨o30,o31,o32,o33,o34,o3f⟩:=o3.five
 have o3l:=o3.lt
 obtain ⟨o40,o41,o42,o43,o44,o4f⟩:=o4.five
 have o4l:=o4.lt
 obtain ⟨o50,o51,o52,o53,o54,o5f⟩:=o5.five
 have o5l:=o5.lt
 go_wp2_with fail
 refine (rD w12 _ _ _ _ _ _ _ _ _ _ py ey (q3.imp (Q':=fun g=>0≤g) fun g _ _=>Nat.zero_le g).is.rd (q5.imp (Q':=fun g=>0≤g) fun g _ _=>Nat.zero_le g).is.rd).mono ?_
 rintro en w13 ⟨rfl,hbr⟩
 clear o10 o11 o12 o13 o14 o1f o1l o20 o21 o22 o23 o24 o2f o2l o30 o31 o32 o33 o34 o3f o3l o40 o41 o42 o43 o44 o4f o4l o50 o51 o52 o53 o54 o5f o5l
 have hs13:=hbr.size
 replace o1:=o1.below hbr
 replace o2:=o2.below hbr
 replace o3:=o3.below hbr
 replace o4:=o4.below hbr
 replace o5:=o5.below hbr
 replace q1:=q1.on fun _ _ _ o=>o.below hbr
 replace q2:=q2.on fun _ _ _ o=>o.below hbr
 replace q3:=q3.on fun _ _ _ o=>o.below hbr
 replace q4:=q4.on fun _ _ _ o=>o.below hbr
 replace q5:=q5.on fun _ _ _ o=>o.below hbr
 have hb13:Below w.heap.size w w13:=hb12.trans (hbr.mono hb12.size)
 clear hbr
 obtain ⟨o10,o11,o12,o13,o14,o1f⟩:=o1.five
 have o1l:=o1.lt
 obtain ⟨o20,o21,o22,o23,o24,o2f⟩:=o2.five
 have o2l:=o2.lt
 obtain ⟨o30,o31,o32,o33,o34,o3f⟩:=o3.five
 have o3l:=o3.lt
 obtain ⟨o40,o41,o42,o43,o44,o4f⟩:=o4.five
 have o4l:=o4.lt
 obtain ⟨o50,o51,o52,o53,o54,o5f⟩:=o5.five
 have o5l:=o5.lt
 obtain ⟨xs,F0,F1,hrow1,hcl1,hnd1,hF1⟩:=q1.2.2.2.2
 have CL:=wA (fD tx) tx (Nat.le_refl _) HGx.out w13 k1 a1 b1 n1 (.slice ao1 m1 cap1) xs F0 F1 hrow1 hcl1 hnd1
 have HF1:=hI hF1
 clear hrow1 hcl1 hnd1 hF1
 go_wp2_with fail
 refine CL.mono ?_
 rintro en w14 ⟨⟨_,rfl⟩,hf⟩
 clear o10 o11 o12 o13 o14 o1f o1l o20 o21 o22 o23 o24 o2f o2l o30 o31 o32 o33 o34 o3f o3l o40 o41 o42 o43 o44 o4f o4l o50 o51 o52 o53 o54 o5f o5l CL
 have hs14:=hf.size
 have hb14:Below w.heap.size w w14:=⟨hf.os.trans hb13.os,hf.tape.trans hb13.tape,hf.output.trans hb13.output,Nat.le_trans hb13.size hf.size,fun g hg=>(hf.block g (Nat.lt_of_lt_of_le hg hb13.size) fun q=>by have:=HF1.out g q; omega).trans (hb13.block g hg)⟩
 clear q1
 replace o1:=o1.fr hf (fun q=>by have:=HF1.out _ q; omega)
 replace o2:=o2.fr hf (fun q=>by have:=HF1.out _ q; omega)
 replace o3:=o3.fr hf (fun q=>by have:=HF1.out _ q; omega)
 replace o4:=o4.fr hf (fun q=>by have:=HF1.out _ q; omega)
 replace o5:=o5.fr hf (fun q=>by have:=HF1.out _ q; omega)
 replace q2:=q2.on fun g hg cur ho=>ho.fr hf (fun q=>by have:=HF1.out g q; omega)
 replace q3:=q3.on fun g hg cur ho=>ho.fr hf (fun q=>by have:=HF1.out g q; omega)
 replace q4:=q4.on fun g hg cur ho=>ho.fr hf (fun q=>by have:=HF1.out g q; omega)
 replace q5:=q5.on fun g hg cur ho=>ho.fr hf (fun q=>by have:=HF1.out g q; omega)
 clear hf HF1
 obtain ⟨o10,o11,o12,o13,o14,o1f⟩:=o1.five
 have o1l:=o1.lt
 obtain ⟨o20,o21,o22,o23,o24,o2f⟩:=o2.five
 have o2l:=o2.lt
 obtain ⟨o30,o31,o32,o33,o34,o3f⟩:=o3.five
 have o3l:=o3.lt
 obtain ⟨o40,o41,o42,o43,o44,o4f⟩:=o4.five
 have o4l:=o4.lt
 obtain ⟨o50,o51,o52,o53,o54,o5f⟩:=o5.five
 have o5l:=o5.lt
 obtain ⟨xs,F0,F1,hrow1,hcl1,hnd1,hF1⟩:=q3.2.2.2.2
 have CL:=wA (fD ty) ty (Nat.le_refl _) HGy.out w14 k3 a3 b3 n3 (.slice ao3 m3 cap3) xs F0 F1 hrow1 hcl1 hnd1
 have HF1:=hI hF1
 clear hrow1 hcl1 hnd1 hF1
 go_wp2_with fail
 refine CL.mono ?_
 rintro en w15 ⟨⟨_,rfl⟩,hf⟩
 clear o10 o11 o12 o13 o14 o1f o1l o20 o21 o22 o23 o24 o2f o2l o30 o31 o32 o33 o34 o3f o3l o40 o41 o42 o43 o44 o4f o4l o50 o51 o52 o53 o54 o5f o5l CL
 have hs15:=hf.size
 have hb15:Below w.heap.size w w15:=⟨hf.os.trans hb14.os,hf.tape.trans hb14.tape,hf.output.trans hb14.output,Nat.le_trans hb14.size hf.size,fun g hg=>(hf.block g (Nat.lt_of_lt_of_le hg hb14.size) fun q=>by have:=HF1.out g q; omega).trans (hb14.block g hg)⟩
 clear q3
 replace o1:=o1.fr hf (fun q=>by have:=HF1.out _ q; omega)
 replace o2:=o2.fr hf (fun q=>by have:=HF1.out _ q; omega)
 replace o3:=o3.fr hf (fun q=>by have:=HF1.out _ q; omega)
 replace o4:=o4.fr hf (fun q=>by have:=HF1.out _ q; omega)
 replace o5:=o5.fr hf (fun q=>by have:=HF1.out _ q; omega)
 replace q2:=q2.on fun g hg cur ho=>ho.fr hf (fun q=>by have:=HF1.out g q; omega)
 replace q4:=q4.on fun g hg cur ho=>ho.fr hf (fun q=>by have:=HF1.out g q; omega)
 replace q5:=q5.on fun g hg cur ho=>ho.fr hf (fun q=>by have:=HF1.out g q; omega)
 clear hf HF1
 obtain ⟨o10,o11,o12,o13,o14,o1f⟩:=o1.five
 have o1l:=o1.lt
 obtain ⟨o20,o21,o22,o23,o24,o2f⟩:=o2.five
 have o2l:=o2.lt
 obtain ⟨o30,o31,o32,o33,o34,o3f⟩:=o3.five
 have o3l:=o3.lt
 obtain ⟨o40,o41,o42,o43,o44,o4f⟩:=o4.five
 have o4l:=o4.lt
 obtain ⟨o50,o51,o52,o53,o54,o5f⟩:=o5.five
 have o5l:=o5.lt
 go_wp2_with fail
 refine (nW (wY true tx) w15 _ _ _ _ _ _ _ _ _ _ (q2.imp (Q':=fun g=>0≤g) fun g _ _=>Nat.zero_le g).is.rd (q4.imp (Q':=fun g=>0≤g) fun g _ _=>Nat.zero_le g).is.rd).mono ?_
 rintro en w16 ⟨rfl,hbr⟩
 have hb16:Below w.heap.size w w16:=hb15.trans (hbr.mono hb15.size)
 go_wp2_with fail
 refine (yH w16 (HL.out.on hb16)).mono ?_
 rintro en wz ⟨rfl,hbz⟩
 go_wp2
 go_ret
 exact ⟨rfl,hb16.trans (hbz.mono hb16.size)⟩
theorem sI (s:ByteArray) (w:World) (hmax:s.size≤maxLen) (HL:Hid (jM w)):Calls Tryz.prog 3 #[.string s] w fun e w'=>e = .returned (.bool true)∧Below w.heap.size w w':=by
 have hma:s.size≤9223372036854775807:=hmax
 clear hmax
 by_cases hA:8192 < s.size
 · have hA2:(8192:Int) < (s.size:Int):=by omega
   go_enter Tryz.func3,Tryz.ntmps3
   go_wp2
   go_ret
   exact ⟨rfl,Below.refl _ _⟩
 have hA2:¬ (8192:Int) < (s.size:Int):=by omega
 have hA3:s.size≤1048576:=by omega
 obtain ⟨T,hT⟩:=oH0 (aD s) (dO s)
 have HT:=hI hT
 have HG:Hid (aO (tF T)):=pM zZ (dO s) hT
 obtain ⟨tt,htt⟩:=iQ (tF T)
 obtain ⟨pp,hpp⟩:=iQ (aK0 T)
 obtain ⟨ee,hee⟩:=iQ (vZ0 T)
 rw [htt] at HG
 clear hT hA
 go_enter Tryz.func3,Tryz.ntmps3
 go_wp2_with fail
 refine (sO s hA3 T HT w HL.out).mono ?_
 rintro en w1 hr
 obtain ⟨hb1,k1,a1,b1,n1,v1,rfl,hN1⟩:=tB hr
 rw [htt] at hN1
 rw [hpp,hee]
 obtain ⟨ao1,cap1,rfl⟩:=hN1.q.shape
 obtain ⟨m,hm⟩:=iQ (tt.kids.length)
 rw [hm] at hN1 ⊢
 replace hN1:aZ w1 (fun g=>w.heap.size≤g∧g < w1.heap.size) tt k1 a1 b1 n1 (.slice ao1 m cap1):=hN1.q.imp fun g h1 h2=>⟨h2,h1⟩
 have hs1:=hb1.size
 have hL1:=HL.out.on hb1
 clear hr
 go_upto_region 4 with fail
 have oA:=Own.new w1 (nD k1 a1 b1 n1 (.slice ao1 m cap1)) 25
 have hbx:Below w1.heap.size w1 (w1.alloc (.cells (nD k1 a1 b1 n1 (.slice ao1 m cap1)) 25)):=(Below.refl _ _).alloc (Nat.le_refl _) _
 generalize w1.alloc _ = w2 at oA hbx ⊢
 have hs2:=oA.lt
 have hL2:=hL1.on hbx
 have hb2:Below w.heap.size w w2:=hb1.trans (hbx.mono hs1)
 replace hN1:=hN1.on fun _ _ _ o=>o.below hbx
 clear hbx hL1 hb1
 go_wp2_with fail
 refine (sO s hA3 T HT w2 hL2).mono ?_
 rintro en w3 hr
 obtain ⟨hb3,k2,a2,b2,n2,v2,rfl,hN2⟩:=tB hr
 rw [htt] at hN2
 rw [hpp,hee]
 obtain ⟨ao2,cap2,rfl⟩:=hN2.q.shape
 rw [hm] at hN2 ⊢
 have hs3:=hb3.size
 replace oA:=oA.below hb3
 replace hN1:=hN1.on fun _ _ _ o=>o.below hb3
 have hb4:Below w.heap.size w w3:=hb2.trans (hb3.mono hb2.size)
 clear hr hb2 hb3 hL2
 go_upto_region 5 with fail
 have oB:=Own.new w3 (nD k2 a2 b2 n2 (.slice ao2 m cap2)) 25
 have hbx:Below w3.heap.size w3 (w3.alloc (.cells (nD k2 a2 b2 n2 (.slice ao2 m cap2)) 25)):=(Below.refl _ _).alloc (Nat.le_refl _) _
 generalize w3.alloc _ = w4 at oB hbx ⊢
 have hs4:=oB.lt
 have hb5:Below w.heap.size w w4:=hb4.trans (hbx.mono hb4.size)
 replace oA:=oA.below hbx
 replace hN1:=hN1.on fun _ _ _ o=>o.below hbx
 replace hN2:=hN2.row fun q=>q.below hbx
 clear hbx hb4
 go_wp2_with fail
 refine (gS0 s hA3 T HT w4).mono ?_
 rintro en w5 hr
 obtain ⟨hb6,k3,a3,b3,n3,v3,rfl,hN3⟩:=tB hr
 rw [htt] at hN3
 rw [hpp,hee]
 obtain ⟨ao3,cap3,rfl⟩:=hN3.q.shape
 rw [hm] at hN3 ⊢
 have hs5:=hb6.size
 replace oA:=oA.below hb6
 replace oB:=oB.below hb6
 replace hN1:=hN1.on fun _ _ _ o=>o.below hb6
 replace hN2:=hN2.row fun q=>q.below hb6
 have hb7:Below w.heap.size w w5:=hb5.trans (hb6.mono hb5.size)
 clear hr hb5 hb6
 go_upto_region 6 with fail
 have oC:=Own.new w5 (nD k3 a3 b3 n3 (.slice ao3 m cap3)) 25
 have hbx:Below w5.heap.size w5 (w5.alloc (.cells (nD k3 a3 b3 n3 (.slice ao3 m cap3)) 25)):=(Below.refl _ _).alloc (Nat.le_refl _) _
 generalize w5.alloc _ = w6 at oC hbx ⊢
 have hs6:=oC.lt
 have hb8:Below w.heap.size w w6:=hb7.trans (hbx.mono hb7.size)
 replace oA:=oA.below hbx
 replace oB:=oB.below hbx
 replace hN1:=hN1.on fun _ _ _ o=>o.below hbx
 replace hN2:=hN2.row fun q=>q.below hbx
 replace hN3:=hN3.row fun q=>q.below hbx
 clear hbx hb7
 obtain ⟨oA0,oA1,oA2,oA3,oA4,oAf⟩:=oA.five
 obtain ⟨oB0,oB1,oB2,oB3,oB4,oBf⟩:=oB.five
 obtain ⟨oC0,oC1,oC2,oC3,oC4,oCf⟩:=oC.five
 have HN1:=hI hN1
 have HN2:=hI hN2
 have HN3:=hI hN3
 clear hN1 hN2 hN3
 go_wp2_with fail
 refine (rD w6 _ _ _ _ _ _ _ _ _ _ pp ee (HN1.out.imp (Q':=fun g=>w.heap.size≤g) fun g _ h=>h.1).is.rd HN3.out.rd).mono ?_
 rintro en w7 ⟨rfl,hb9⟩
 have hs7:=hb9.size
 replace oA:=oA.below hb9
 replace oB:=oB.below hb9
 replace oC:=oC.below hb9
 have HM1:Hid (aZ w7 (fun g=>w.heap.size≤g∧g < w1.heap.size) tt k1 a1 b1 n1 (.slice ao1 m cap1)):=HN1.out.on fun _ _ _ o=>o.below hb9
 have HM2:Hid (bV w7 w2.heap.size tt k2 a2 b2 n2 (.slice ao2 m cap2)):=HN2.out.row fun q=>q.below hb9
 have HM3:Hid (bV w7 w4.heap.size tt k3 a3 b3 n3 (.slice ao3 m cap3)):=HN3.out.row fun q=>q.below hb9
 have hb10:Below w.heap.size w w7:=hb8.trans (hb9.mono hb8.size)
 clear oA0 oA1 oA2 oA3 oA4 oAf oB0 oB1 oB2 oB3 oB4 oBf oC0 oC1 oC2 oC3 oC4 oCf HN1 HN2 HN3 hb8 hb9
 obtain ⟨oA0,oA1,oA2,oA3,oA4,oAf⟩:=oA.five
 obtain ⟨oB0,oB1,oB2,oB3,oB4,oBf⟩:=oB.five
 obtain ⟨oC0,oC1,oC2,oC3,oC4,oCf⟩:=oC.five
 go_wp2_with fail
 refine (rD w7 _ _ _ _ _ _ _ _ _ _ pp ee HM2.out.rd HM3.out.rd).mono ?_
 rintro en w8 ⟨rfl,hb9⟩
 have hs8:=hb9.size
 replace oA:=oA.below hb9
 replace oB:=oB.below hb9
 replace oC:=oC.below hb9
 have hM1:aZ w8 (fun g=>w.heap.size≤g∧g < w1.heap.size) tt k1 a1 b1 n1 (.slice ao1 m cap1):=HM1.out.on fun _ _ _ o=>o.below hb9
 have hM2:bV w8 w2.heap.size tt k2 a2 b2 n2 (.slice ao2 m cap2):=HM2.out.row fun q=>q.below hb9
 have hM3:bV w8 w4.heap.size tt k3 a3 b3 n3 (.slice ao3 m cap3):=HM3.out.row fun q=>q.below hb9
 have hb11:Below w.heap.size w w8:=hb10.trans (hb9.mono hb10.size)
 clear oA0 oA1 oA2 oA3 oA4 oAf oB0 oB1 oB2 oB3 oB4 oBf oC0 oC1 oC2 oC3 oC4 oCf HM1 HM2 HM3 hb9 hb10
 obtain ⟨xs,F0,F1,hrow1,hcl1,hnd1,hF1⟩:=hM1.2.2.2.2
 have CL:=wA (fD tt) tt (Nat.le_refl _) HG.out w8 k1 a1 b1 n1 (.slice ao1 m cap1) xs F0 F1 hrow1 hcl1 hnd1
 have HF1:=hI hF1
 have HM2:=hI hM2
 have HM3:=hI hM3
 obtain ⟨oA0,oA1,oA2,oA3,oA4,oAf⟩:=oA.five
 have hlA:=oA.lt
 clear hM1 hM2 hM3 hrow1 hcl1 hnd1 hF1
 go_wp2_with fail
 refine CL.mono ?_
 rintro en w9 ⟨⟨_,rfl⟩,hf⟩
 have hs9:=hf.size
 have hb12:Below w.heap.size w w9:=⟨hf.os.trans hb11.os,hf.tape.trans hb11.tape,hf.output.trans hb11.output,Nat.le_trans hb11.size hf.size,fun g hg=>(hf.block g (Nat.lt_of_lt_of_le hg hb11.size) fun q=>by have:=HF1.out g q; omega).trans (hb11.block g hg)⟩
 have oB9:=oB.fr hf (fun q=>by have:=HF1.out _ q; omega)
 have oC9:=oC.fr hf (fun q=>by have:=HF1.out _ q; omega)
 have HP2:Hid (bV w9 w2.heap.size tt k2 a2 b2 n2 (.slice ao2 m cap2)):=HM2.out.row fun q=>q.on fun g hg cur ho=>ho.fr hf (fun q=>by have:=HF1.out g q; omega)
 have HP3:Hid (bV w9 w4.heap.size tt k3 a3 b3 n3 (.slice ao3 m cap3)):=HM3.out.row fun q=>q.on fun g hg cur ho=>ho.fr hf (fun q=>by have:=HF1.out g q; omega)
 obtain ⟨oB0,oB1,oB2,oB3,oB4,oBf⟩:=oB9.five
 obtain ⟨oC0,oC1,oC2,oC3,oC4,oCf⟩:=oC9.five
 have hlB:=oB9.lt
 have hlC:=oC9.lt
 clear oA oB oC oA0 oA1 oA2 oA3 oA4 oAf CL HM2 HM3 hb11 hf
 go_wp2_with fail
 refine (nW (wY true tt) w9 _ _ _ _ _ _ _ _ _ _ HP2.out.rd HP3.out.rd).mono ?_
 rintro en w10 ⟨rfl,hb13⟩
 have hb14:Below w.heap.size w w10:=hb12.trans (hb13.mono hb12.size)
 go_wp2_with fail
 refine (yH w10 (HL.out.on hb14)).mono ?_
 rintro en w11 ⟨rfl,hb15⟩
 go_wp2
 go_ret
 exact ⟨rfl,hb14.trans (hb15.mono hb14.size)⟩
end Go.Proofs.YtnipenijihkgdaaGreatDoor
