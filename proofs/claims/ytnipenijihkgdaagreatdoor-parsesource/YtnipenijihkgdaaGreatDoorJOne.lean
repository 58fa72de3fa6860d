import Derived.Test.YtnipenijihkgdaaGreatDoorNd
import Derived.Test.YtnipenijihkgdaaGreatDoorJLow
import Derived.BigRegion
set_option maxHeartbeats 2000000
set_option maxRecDepth 100000
namespace Go.Proofs.YtnipenijihkgdaaGreatDoor
open Go.RowKit
set_option linter.unusedVariables false
def sE0 (p:Nat) (o:Except (Nat × Nat) (Nat × List Nat × Nat × Nat)) (pl:Int):Value :=
 match o with
 | .ok (kd,tx,n,len)=>.tuple #[.agg #[.int .u8 (kd:Int),.string (bJ tx),.int .u64 (n:Int),.int .i64 (p:Int),.int .i64 ((p + len:Nat):Int)],.int .i64 pl,.int .i64 0]
 | .error (q,e)=>.tuple #[.agg #[.int .u8 0,.string ⟨#[]⟩,.int .u64 0,.int .i64 0,.int .i64 0],.int .i64 ((p + q:Nat):Int),.int .i64 (e:Int)]
theorem rN (p kd n len:Nat) (tx:List Nat) (pl b:Int) (hb:b = ((p + len:Nat):Int)):sE0 p (.ok (kd,tx,n,len)) pl = .tuple #[.agg #[.int .u8 (kd:Int),.string (bJ tx),.int .u64 (n:Int),.int .i64 (p:Int),.int .i64 b],.int .i64 pl,.int .i64 0]:=by
 subst hb; rfl
theorem rJ (p q e:Nat) (pl b:Int) (hb:b = ((p + q:Nat):Int)):sE0 p (.error (q,e)) pl = .tuple #[.agg #[.int .u8 0,.string ⟨#[]⟩,.int .u64 0,.int .i64 0,.int .i64 0],.int .i64 b,.int .i64 (e:Int)]:=by
 subst hb; rfl
theorem eI (q:Nat→Bool):∀ l:List Nat,l.take (l.takeWhile q).length = l.takeWhile q:=by
 intro l
 induction l with
 | nil=>rfl
 | cons c r ih=>?_
 rw [List.takeWhile_cons]
 split
 · rw [List.length_cons,List.take_succ_cons,ih]
 rfl
theorem rH (l:List Nat):fL l≤l.length:=by unfold fL; rw [← eI,List.length_take]; omega
theorem gK0 (l:List Nat):mU l≤l.length:=by unfold mU; rw [← eI,List.length_take]; omega
theorem nR (s:ByteArray) (a b:Nat) (l:List Nat) (h:((aD s).drop a).take (b - a) = l):s.extract a b = bJ l:=by
 apply iK
 rw [eM,h,gK]
 intro c hc
 rw [← h] at hc
 exact dO s c (List.mem_of_mem_drop (List.mem_of_mem_take hc))
theorem kF0 (s:ByteArray) (p c:Nat) (hp:p < s.size) (h:s.size≤1048576) (hc:(s[p]'hp).toNat = c) (HL:Hid (bO c = true)) (w:World) :
    Calls Tryz.prog 80 #[.string s,.int .i64 (p:Int)] w fun e w'=>(∃ pl,e = .returned (sE0 p (eU ((aD s).drop p)) pl))∧Below w.heap.size w w':=by
 obtain ⟨E,hE⟩:∃ E,Hid (p + fL ((aD s).drop p) = E):=⟨_,rfl⟩
 have hEs:E≤s.size:=by rw [← hE.out]; have:=rH ((aD s).drop p); rw [List.length_drop,aK] at this; omega
 have hpE:p≤E:=by rw [← hE.out]; omega
 have HX:Hid (s.extract p E = bJ (((aD s).drop p).takeWhile cO)):=nR s p E _ (by rw [← hE.out,Nat.add_sub_cancel_left]; exact eI _ _)
 have HO:Hid (eU ((aD s).drop p) = .ok (1,((aD s).drop p).takeWhile cO,0,fL ((aD s).drop p))):=by
  unfold Hid; rw [bY s p hp,hc]; unfold eU; simp only [HL.out,if_true]
 go_enter Tryz.func80,Tryz.ntmps80
 go_wp2_with fail
 refine (fC c _).mono ?_
 rw [HL.out]
 rintro e wx ⟨rfl,rfl⟩
 go_wp2_with fail
 refine (jA s p p E rfl (by omega) h hE.out _).mono ?_
 rintro e wx ⟨rfl,rfl⟩
 go_wp2
 refine aM (g:=w.heap.size) (t:=65) rfl rfl rfl (heap_alloc_new w _) Tryz.underlying65 rfl (by kernel_rfl) ?_
 refine ⟨⟨0,?_⟩,(Below.refl _ _).alloc (Nat.le_refl _) _⟩
 rw [HO.out,rN p 1 0 _ _ 0 (E:Int) (by rw [hE.out]),← HX.out]
 rfl
def mK : Obj:=.cells #[.int .u8 0,.string ⟨#[]⟩,.int .u64 0,.int .i64 0,.int .i64 0] 65
theorem lZ {w w2:World} {g:Nat} (hg:g = w.heap.size) (hb:Below (w.alloc mK).heap.size (w.alloc mK) w2):w2.heap[g]? = some mK∧g < w2.heap.size∧Below g w w2:=by
 have hs:(w.alloc mK).heap.size = g + 1:=by rw [hg]; exact Array.size_push _
 have h1:=hb.size
 rw [hs] at h1
 refine ⟨?_,by omega,?_⟩
 · rw [hb.block g (by omega),hg]; exact heap_alloc_new w _
 refine ((Below.refl g w).alloc (by omega) mK).trans (hb.mono (by omega))
theorem cR (w:World) (g:Nat) (b0 b1 b2 b3 b4:Value):(((((w.setCell ⟨g,0,none⟩ b0).setCell ⟨g,1,none⟩ b1).setCell ⟨g,2,none⟩ b2).setCell ⟨g,3,none⟩ b3).setCell ⟨g,4,none⟩ b4).heap.size = w.heap.size:=by
 simp [World.setCell]
theorem cZ0 (s:ByteArray) (p c E F VT:Nat) (x:ByteArray) (hp:p < s.size) (h:s.size≤1048576) (hc:(s[p]'hp).toNat = c) (HL:Hid (bO c = false)) (HD:Hid (aY c = true))
    (hE:Hid (p + mU ((aD s).drop p) = E)) (hV:Hid (oZ (((aD s).drop p).takeWhile aY) = VT)) (hF:Hid (E + fL ((aD s).drop E) = F)) (hFs:F≤s.size) (hx:Hid (s.extract E F = x))
    (HN:Hid (pP p F VT x = .tuple #[.agg #[.int .u8 2,.string x,.int .u64 (VT:Int),.int .i64 (p:Int),.int .i64 (F:Int)],.int .i64 0])) (w:World) :
    Calls Tryz.prog 80 #[.string s,.int .i64 (p:Int)] w fun e w'=>e = .returned (.tuple #[.agg #[.int .u8 2,.string x,.int .u64 (VT:Int),.int .i64 (p:Int),.int .i64 (F:Int)],.int .i64 (p:Int),.int .i64 0])∧Below w.heap.size w w':=by
 obtain ⟨g,hg⟩:∃ g,g = w.heap.size:=⟨_,rfl⟩
 have HG:=hI hg
 go_enter Tryz.func80,Tryz.ntmps80
 go_wp2_with fail
 refine (fC c _).mono ?_
 rw [HL.out]
 rintro e wx ⟨rfl,rfl⟩
 go_wp2_with fail
 refine (dL c _).mono ?_
 rw [HD.out]
 rintro e wx ⟨rfl,rfl⟩
 go_wp2_with fail
 refine (vG s p p E F VT x rfl (by omega) h hE.out hV.out hF.out hFs hx.out _).mono ?_
 rw [HN.out]
 rintro e w2 ⟨rfl,hb2⟩
 rw [← hg]
 clear hg
 obtain ⟨hblk,hgs,BW⟩:=lZ HG.out hb2
 have BW:=hI BW
 unfold mK at hblk
 have c0:w2.cell? ⟨g,0,none⟩ = some (.int .u8 0):=cell_of_row _ g 0 _ _ _ hblk
 have c1:w2.cell? ⟨g,1,none⟩ = some (.string ⟨#[]⟩):=cell_of_row _ g 1 _ _ _ hblk
 have c2:w2.cell? ⟨g,2,none⟩ = some (.int .u64 0):=cell_of_row _ g 2 _ _ _ hblk
 have c3:w2.cell? ⟨g,3,none⟩ = some (.int .i64 0):=cell_of_row _ g 3 _ _ _ hblk
 have c4:w2.cell? ⟨g,4,none⟩ = some (.int .i64 0):=cell_of_row _ g 4 _ _ _ hblk
 have f0:∀ j,w2.frozen? ⟨g,j,none⟩ = false:=fun j=>by simp [World.frozen?,hblk]
 have HBK:=hI hblk
 clear hblk hb2
 go_wp2
 refine aM (g:=g) (t:=65) rfl rfl rfl ((heap_alloc_old _ _ (by rw [cR]; exact hgs)).trans (eD _ _ _ _ _ _ _ _ _ _ _ _ _ _ HBK.out)) Tryz.underlying65 rfl (by kernel_rfl) ?_
 exact ⟨rfl,by rw [← HG.out]; exact (cA BW.out (Nat.le_refl _)).alloc (by rw [cR]; omega) _⟩
theorem cJ0 (s:ByteArray) (p c E F VT:Nat) (x:ByteArray) (hp:p < s.size) (h:s.size≤1048576) (hc:(s[p]'hp).toNat = c) (HL:Hid (bO c = false)) (HD:Hid (aY c = true))
    (hE:Hid (p + mU ((aD s).drop p) = E)) (hV:Hid (oZ (((aD s).drop p).takeWhile aY) = VT)) (hF:Hid (E + fL ((aD s).drop E) = F)) (hFs:F≤s.size) (hx:Hid (s.extract E F = x))
    (HN:Hid (pP p F VT x = .tuple #[.agg #[.int .u8 0,.string ⟨#[]⟩,.int .u64 0,.int .i64 0,.int .i64 0],.int .i64 33])) (w:World) :
    Calls Tryz.prog 80 #[.string s,.int .i64 (p:Int)] w fun e w'=>e = .returned (.tuple #[.agg #[.int .u8 0,.string ⟨#[]⟩,.int .u64 0,.int .i64 0,.int .i64 0],.int .i64 (p:Int),.int .i64 33])∧Below w.heap.size w w':=by
 obtain ⟨g,hg⟩:∃ g,g = w.heap.size:=⟨_,rfl⟩
 have HG:=hI hg
 go_enter Tryz.func80,Tryz.ntmps80
 go_wp2_with fail
 refine (fC c _).mono ?_
 rw [HL.out]
 rintro e wx ⟨rfl,rfl⟩
 go_wp2_with fail
 refine (dL c _).mono ?_
 rw [HD.out]
 rintro e wx ⟨rfl,rfl⟩
 go_wp2_with fail
 refine (vG s p p E F VT x rfl (by omega) h hE.out hV.out hF.out hFs hx.out _).mono ?_
 rw [HN.out]
 rintro e w2 ⟨rfl,hb2⟩
 rw [← hg]
 clear hg
 obtain ⟨hblk,hgs,BW⟩:=lZ HG.out hb2
 have BW:=hI BW
 unfold mK at hblk
 have c0:w2.cell? ⟨g,0,none⟩ = some (.int .u8 0):=cell_of_row _ g 0 _ _ _ hblk
 have c1:w2.cell? ⟨g,1,none⟩ = some (.string ⟨#[]⟩):=cell_of_row _ g 1 _ _ _ hblk
 have c2:w2.cell? ⟨g,2,none⟩ = some (.int .u64 0):=cell_of_row _ g 2 _ _ _ hblk
 have c3:w2.cell? ⟨g,3,none⟩ = some (.int .i64 0):=cell_of_row _ g 3 _ _ _ hblk
 have c4:w2.cell? ⟨g,4,none⟩ = some (.int .i64 0):=cell_of_row _ g 4 _ _ _ hblk
 have f0:∀ j,w2.frozen? ⟨g,j,none⟩ = false:=fun j=>by simp [World.frozen?,hblk]
 have HBK:=hI hblk
 clear hblk hb2
 go_wp2
 refine aM (g:=g) (t:=65) rfl rfl rfl ((heap_alloc_old _ _ (by rw [cR]; exact hgs)).trans (eD _ _ _ _ _ _ _ _ _ _ _ _ _ _ HBK.out)) Tryz.underlying65 rfl (by kernel_rfl) ?_
 exact ⟨rfl,by rw [← HG.out]; exact (cA BW.out (Nat.le_refl _)).alloc (by rw [cR]; omega) _⟩
theorem zS (s:ByteArray) (p:Nat) (hp:p < s.size) (h:s.size≤1048576) (hc:(s[p]'hp).toNat = 34) (out:List Nat) (m:Nat) (HT:Hid (T ((aD s).drop (p + 1)) = .ok (out,m))) (w:World) :
    Calls Tryz.prog 80 #[.string s,.int .i64 (p:Int)] w fun e w'=>e = .returned (.tuple #[.agg #[.int .u8 3,.string (bJ out),.int .u64 0,.int .i64 (p:Int),.int .i64 ((p + 1 + m:Nat):Int)],.int .i64 0,.int .i64 0])∧Below w.heap.size w w':=by
 have HL:Hid (bO 34 = false):=rfl
 have HD:Hid (aY 34 = false):=rfl
 obtain ⟨M,hM⟩:∃ M:Int,Hid (((p + 1 + m:Nat):Int) = M):=⟨_,rfl⟩
 obtain ⟨X,hX⟩:∃ X,Hid (bJ out = X):=⟨_,rfl⟩
 have HV:Hid (oQ p (T ((aD s).drop (p + 1))) = .tuple #[.agg #[.int .u8 3,.string (X),.int .u64 0,.int .i64 (p:Int),.int .i64 M],.int .i64 0,.int .i64 0]):=by
  unfold Hid; rw [HT.out]; show Value.tuple #[.agg #[.int .u8 3,.string (bJ out),.int .u64 0,.int .i64 (p:Int),.int .i64 ((p + 1 + m:Nat):Int)],.int .i64 0,.int .i64 0] = _
  rw [hM.out,hX.out]
 rw [hM.out,hX.out]
 obtain ⟨g,hg⟩:∃ g,g = w.heap.size:=⟨_,rfl⟩
 have HG:=hI hg
 go_enter Tryz.func80,Tryz.ntmps80
 go_wp2_with fail
 refine (fC 34 _).mono ?_
 rw [HL.out]
 rintro e wx ⟨rfl,rfl⟩
 go_wp2_with fail
 refine (dL 34 _).mono ?_
 rw [HD.out]
 rintro e wx ⟨rfl,rfl⟩
 go_wp2_with fail
 refine (uX s p p _ rfl hp h HV.out _).mono ?_
 rintro e w2 ⟨rfl,hb2⟩
 rw [← hg]
 clear hg
 obtain ⟨hblk,hgs,BW⟩:=lZ HG.out hb2
 have BW:=hI BW
 unfold mK at hblk
 have c0:w2.cell? ⟨g,0,none⟩ = some (.int .u8 0):=cell_of_row _ g 0 _ _ _ hblk
 have c1:w2.cell? ⟨g,1,none⟩ = some (.string ⟨#[]⟩):=cell_of_row _ g 1 _ _ _ hblk
 have c2:w2.cell? ⟨g,2,none⟩ = some (.int .u64 0):=cell_of_row _ g 2 _ _ _ hblk
 have c3:w2.cell? ⟨g,3,none⟩ = some (.int .i64 0):=cell_of_row _ g 3 _ _ _ hblk
 have c4:w2.cell? ⟨g,4,none⟩ = some (.int .i64 0):=cell_of_row _ g 4 _ _ _ hblk
 have f0:∀ j,w2.frozen? ⟨g,j,none⟩ = false:=fun j=>by simp [World.frozen?,hblk]
 have HBK:=hI hblk
 clear hblk hb2
 go_wp2
 refine aM (g:=g) (t:=65) rfl rfl rfl (eD _ _ _ _ _ _ _ _ _ _ _ _ _ _ HBK.out) Tryz.underlying65 rfl (by kernel_rfl) ?_
 exact ⟨rfl,by rw [← HG.out]; exact cA BW.out (Nat.le_refl _)⟩
theorem wM (s:ByteArray) (p:Nat) (hp:p < s.size) (h:s.size≤1048576) (hc:(s[p]'hp).toNat = 34) (k:Nat) (HT:Hid (T ((aD s).drop (p + 1)) = .error (none,k))) (w:World) :
    Calls Tryz.prog 80 #[.string s,.int .i64 (p:Int)] w fun e w'=>e = .returned (.tuple #[.agg #[.int .u8 0,.string ⟨#[]⟩,.int .u64 0,.int .i64 0,.int .i64 0],.int .i64 (p:Int),.int .i64 (k:Int)])∧Below w.heap.size w w':=by
 have HL:Hid (bO 34 = false):=rfl
 have HD:Hid (aY 34 = false):=rfl
 have HV:Hid (oQ p (T ((aD s).drop (p + 1))) = .tuple #[.agg #[.int .u8 0,.string ⟨#[]⟩,.int .u64 0,.int .i64 0,.int .i64 0],.int .i64 (p:Int),.int .i64 (k:Int)]):=by
  unfold Hid; rw [HT.out]; show Value.tuple #[.agg #[.int .u8 0,.string ⟨#[]⟩,.int .u64 0,.int .i64 0,.int .i64 0],.int .i64 (p:Int),.int .i64 (k:Int)] = _
  rfl
 obtain ⟨g,hg⟩:∃ g,g = w.heap.size:=⟨_,rfl⟩
 have HG:=hI hg
 go_enter Tryz.func80,Tryz.ntmps80
 go_wp2_with fail
 refine (fC 34 _).mono ?_
 rw [HL.out]
 rintro e wx ⟨rfl,rfl⟩
 go_wp2_with fail
 refine (dL 34 _).mono ?_
 rw [HD.out]
 rintro e wx ⟨rfl,rfl⟩
 go_wp2_with fail
 refine (uX s p p _ rfl hp h HV.out _).mono ?_
 rintro e w2 ⟨rfl,hb2⟩
 rw [← hg]
 clear hg
 obtain ⟨hblk,hgs,BW⟩:=lZ HG.out hb2
 have BW:=hI BW
 unfold mK at hblk
 have c0:w2.cell? ⟨g,0,none⟩ = some (.int .u8 0):=cell_of_row _ g 0 _ _ _ hblk
 have c1:w2.cell? ⟨g,1,none⟩ = some (.string ⟨#[]⟩):=cell_of_row _ g 1 _ _ _ hblk
 have c2:w2.cell? ⟨g,2,none⟩ = some (.int .u64 0):=cell_of_row _ g 2 _ _ _ hblk
 have c3:w2.cell? ⟨g,3,none⟩ = some (.int .i64 0):=cell_of_row _ g 3 _ _ _ hblk
 have c4:w2.cell? ⟨g,4,none⟩ = some (.int .i64 0):=cell_of_row _ g 4 _ _ _ hblk
 have f0:∀ j,w2.frozen? ⟨g,j,none⟩ = false:=fun j=>by simp [World.frozen?,hblk]
 have HBK:=hI hblk
 clear hblk hb2
 go_wp2
 refine aM (g:=g) (t:=65) rfl rfl rfl (eD _ _ _ _ _ _ _ _ _ _ _ _ _ _ HBK.out) Tryz.underlying65 rfl (by kernel_rfl) ?_
 exact ⟨rfl,by rw [← HG.out]; exact cA BW.out (Nat.le_refl _)⟩
theorem wF (s:ByteArray) (p:Nat) (hp:p < s.size) (h:s.size≤1048576) (hc:(s[p]'hp).toNat = 34) (q k:Nat) (HT:Hid (T ((aD s).drop (p + 1)) = .error (some q,k))) (w:World) :
    Calls Tryz.prog 80 #[.string s,.int .i64 (p:Int)] w fun e w'=>e = .returned (.tuple #[.agg #[.int .u8 0,.string ⟨#[]⟩,.int .u64 0,.int .i64 0,.int .i64 0],.int .i64 ((p + 1 + q:Nat):Int),.int .i64 (k:Int)])∧Below w.heap.size w w':=by
 have HL:Hid (bO 34 = false):=rfl
 have HD:Hid (aY 34 = false):=rfl
 obtain ⟨M,hM⟩:∃ M:Int,Hid (((p + 1 + q:Nat):Int) = M):=⟨_,rfl⟩
 have HV:Hid (oQ p (T ((aD s).drop (p + 1))) = .tuple #[.agg #[.int .u8 0,.string ⟨#[]⟩,.int .u64 0,.int .i64 0,.int .i64 0],.int .i64 M,.int .i64 (k:Int)]):=by
  unfold Hid; rw [HT.out]; show Value.tuple #[.agg #[.int .u8 0,.string ⟨#[]⟩,.int .u64 0,.int .i64 0,.int .i64 0],.int .i64 ((p + 1 + q:Nat):Int),.int .i64 (k:Int)] = _
  rw [hM.out]
 rw [hM.out]
 obtain ⟨g,hg⟩:∃ g,g = w.heap.size:=⟨_,rfl⟩
 have HG:=hI hg
 go_enter Tryz.func80,Tryz.ntmps80
 go_wp2_with fail
 refine (fC 34 _).mono ?_
 rw [HL.out]
 rintro e wx ⟨rfl,rfl⟩
 go_wp2_with fail
 refine (dL 34 _).mono ?_
 rw [HD.out]
 rintro e wx ⟨rfl,rfl⟩
 go_wp2_with fail
 refine (uX s p p _ rfl hp h HV.out _).mono ?_
 rintro e w2 ⟨rfl,hb2⟩
 rw [← hg]
 clear hg
 obtain ⟨hblk,hgs,BW⟩:=lZ HG.out hb2
 have BW:=hI BW
 unfold mK at hblk
 have c0:w2.cell? ⟨g,0,none⟩ = some (.int .u8 0):=cell_of_row _ g 0 _ _ _ hblk
 have c1:w2.cell? ⟨g,1,none⟩ = some (.string ⟨#[]⟩):=cell_of_row _ g 1 _ _ _ hblk
 have c2:w2.cell? ⟨g,2,none⟩ = some (.int .u64 0):=cell_of_row _ g 2 _ _ _ hblk
 have c3:w2.cell? ⟨g,3,none⟩ = some (.int .i64 0):=cell_of_row _ g 3 _ _ _ hblk
 have c4:w2.cell? ⟨g,4,none⟩ = some (.int .i64 0):=cell_of_row _ g 4 _ _ _ hblk
 have f0:∀ j,w2.frozen? ⟨g,j,none⟩ = false:=fun j=>by simp [World.frozen?,hblk]
 have HBK:=hI hblk
 clear hblk hb2
 go_wp2
 refine aM (g:=g) (t:=65) rfl rfl rfl (eD _ _ _ _ _ _ _ _ _ _ _ _ _ _ HBK.out) Tryz.underlying65 rfl (by kernel_rfl) ?_
 exact ⟨rfl,by rw [← HG.out]; exact cA BW.out (Nat.le_refl _)⟩
theorem pM0 (l:List Nat) (i:Nat) (h:i < 31) (hb:∀ j,j < i→dG l (fY.getD j []) = false) (hi:dG l (fY.getD i []) = true):kD l = some (fY.getD i []):=by
 have h2:i < fY.length:=h
 have e1:fY.getD i [] = fY[i]:=by rw [List.getD_eq_getElem?_getD,List.getElem?_eq_getElem h2]; rfl
 rw [e1] at hi ⊢
 unfold kD
 rw [List.find?_eq_some_iff_getElem]
 refine ⟨hi,i,h2,rfl,fun j hj=>?_⟩
 have:=hb j hj
 rw [List.getD_eq_getElem?_getD,List.getElem?_eq_getElem (by omega)] at this
 simpa using this
theorem eG0 (l:List Nat) (hb:∀ j,j < 31→dG l (fY.getD j []) = false):kD l = none:=by
 unfold kD
 rw [List.find?_eq_none]
 intro x hx
 obtain ⟨j,hj,rfl⟩:=List.getElem_of_mem hx
 have:=hb j hj
 rw [List.getD_eq_getElem?_getD,List.getElem?_eq_getElem hj] at this
 simpa using this
theorem gJ0 (i:Nat) (h:i < 31):aD (jQ.getD i ⟨#[]⟩) = fY.getD i []:=by
 have h2:i < jQ.length:=h
 rw [← yC,List.getD_eq_getElem?_getD,List.getD_eq_getElem?_getD,List.getElem?_map,List.getElem?_eq_getElem h2]; rfl
theorem xM (i:Nat) (h:i < 31):(jQ.getD i ⟨#[]⟩).size≤2:=by
 have h2:i < jQ.length:=h
 rw [List.getD_eq_getElem?_getD,List.getElem?_eq_getElem h2]
 have:∀ x ∈ jQ,x.size≤2:=by decide
 exact this _ (List.getElem_mem h2)
theorem eP0 {B:Nat} {w w1:World} (h:Below B w w1):Below B w w1.drew:=⟨h.os,h.tape,h.output,h.size,h.block⟩
theorem mS (x:ByteArray):bJ (aD x) = x:=by
 apply iK; rw [gK _ (dO x)]
def xR0 (l:List Nat) (i:Value):Prop:=∃ k:Nat,k≤31∧i = .int .i64 k∧∀ j,j < k→dG l (fY.getD j []) = false
theorem mI0 (s:ByteArray) (p c:Nat) (hp:p < s.size) (h:s.size≤1048576) (hc:(s[p]'hp).toNat = c) (HL:Hid (bO c = false)) (HD:Hid (aY c = false)) (hq:((c:Int) == 34) = false)
    (l:List Nat) (Hl:Hid ((aD s).drop p = l)) (w:World) :
    Calls Tryz.prog 80 #[.string s,.int .i64 (p:Int)] w fun e w'=>(∃ pl,e = .returned (sE0 p (match kD l with | none=>.error (0,30) | some x=>.ok (4,x,0,x.length)) pl))∧Below w.heap.size w w':=by
 obtain ⟨O,hO⟩:∃ O:Except (Nat × Nat) (Nat × List Nat × Nat × Nat),Hid ((match kD l with | none=>.error (0,30) | some x=>.ok (4,x,0,x.length)) = O):=⟨_,rfl⟩
 rw [hO.out]
 obtain ⟨g,hg⟩:∃ g,g = w.heap.size:=⟨_,rfl⟩
 have HG:=hI hg
 go_enter Tryz.func80,Tryz.ntmps80
 go_wp2_with fail
 refine (fC c _).mono ?_
 rw [HL.out]
 rintro e wx ⟨rfl,rfl⟩
 go_wp2_with fail
 refine (dL c _).mono ?_
 rw [HD.out]
 rintro e wx ⟨rfl,rfl⟩
 go_wp2_with fail
 refine (fK0 _).mono ?_
 rintro e w2 ⟨rfl,hw2⟩
 have hs1:(w.alloc mK).heap.size = g + 1:=by rw [hg]; exact Array.size_push _
 have hb2:Below (w.alloc mK).heap.size (w.alloc mK) w2:=by rw [hw2]; exact (Below.refl _ _).alloc (Nat.le_refl _) _
 have hsg:∀ j,j < 31→w2.cell? ⟨g + 1,j,none⟩ = some (.string (jQ.getD j ⟨#[]⟩)):=by
  intro j hj
  rw [hw2,← hs1]
  exact (cell_of_row _ _ j _ _ _ (heap_alloc_new _ _)).trans (dM0 j hj)
 have hsz:(w.alloc (.cells #[.int .u8 0,.string ⟨#[]⟩,.int .u64 0,.int .i64 0,.int .i64 0] 65)).heap.size = g + 1:=hs1
 rw [hsz,← hg]
 have HSG:=hI hsg
 clear hw2 hg hs1 hsg hsz
 obtain ⟨hblk,hgs,BW⟩:=lZ HG.out hb2
 have BW:=hI BW
 unfold mK at hblk
 have c0:w2.cell? ⟨g,0,none⟩ = some (.int .u8 0):=cell_of_row _ g 0 _ _ _ hblk
 have c1:w2.cell? ⟨g,1,none⟩ = some (.string ⟨#[]⟩):=cell_of_row _ g 1 _ _ _ hblk
 have c2:w2.cell? ⟨g,2,none⟩ = some (.int .u64 0):=cell_of_row _ g 2 _ _ _ hblk
 have c3:w2.cell? ⟨g,3,none⟩ = some (.int .i64 0):=cell_of_row _ g 3 _ _ _ hblk
 have c4:w2.cell? ⟨g,4,none⟩ = some (.int .i64 0):=cell_of_row _ g 4 _ _ _ hblk
 have f0:∀ j,w2.frozen? ⟨g,j,none⟩ = false:=fun j=>by simp [World.frozen?,hblk]
 have HBK:=hI hblk
 clear hblk hb2
 go_wp2_with fail
 go_loop [12] (fun i=>xR0 l i) (fun i=>31 - (intOf i).toNat)
 case atStart=>exact ⟨0,by omega,rfl,fun j hj=>by omega⟩
 case round =>
  obtain ⟨k,hk,rfl,hno⟩:=hrel
  have HNO:=hI hno
  clear hno
  by_cases hlt:k < 31
  · obtain ⟨x,hx⟩:∃ x,Hid (jQ.getD k ⟨#[]⟩ = x):=⟨_,rfl⟩
    have hcell:w2.cell? ⟨g + 1,k,none⟩ = some (.string x):=by rw [← hx.out]; exact HSG.out k hlt
    have hxs:x.size≤2:=by rw [← hx.out]; exact xM k hlt
    have HXB:Hid (aD x = fY.getD k []):=by unfold Hid; rw [← hx.out]; exact gJ0 k hlt
    by_cases hh:dG l (fY.getD k []) = true
    · have HH:Hid (dG ((aD s).drop p) (aD x) = true):=by unfold Hid; rw [HXB.out,Hl.out]; exact hh
      have HO:Hid (O = .ok (4,aD x,0,x.size)):=by
       unfold Hid; rw [← hO.out,pM0 l k hlt HNO.out hh,← HXB.out]
       show Except.ok (4,aD x,0,(aD x).length) = _
       rw [aK]
      clear hh
      go_wp2_with fail
      refine (pJ s x p p rfl (by omega) h (by omega) _).mono ?_
      rw [HH.out]
      rintro e wx ⟨rfl,rfl⟩
      go_wp2_with fail
      go_region
      go_wp2
      refine aM (g:=g) (t:=65) rfl rfl rfl (eD w2 _ _ _ _ _ _ _ _ _ _ _ _ _ HBK.out) Tryz.underlying65 rfl (by kernel_rfl) ?_
      refine ⟨⟨0,?_⟩,by rw [← HG.out]; exact eP0 (cA BW.out (Nat.le_refl _))⟩
      rw [HO.out,rN p 4 0 x.size _ 0 ((p:Int) + (x.size:Int)) (by omega),mS]
      rfl
    have HH:Hid (dG ((aD s).drop p) (aD x) = false):=by unfold Hid; rw [HXB.out,Hl.out]; simpa using hh
    have HNO2:Hid (∀ j,j < k + 1→dG l (fY.getD j []) = false):=by
     intro j hj
     by_cases hjk:j = k
     · subst hjk; simpa using hh
     exact HNO.out j (by omega)
    clear hh
    go_wp2_with fail
    refine (pJ s x p p rfl (by omega) h (by omega) _).mono ?_
    rw [HH.out]
    rintro e wx ⟨rfl,rfl⟩
    go_wp2
    go_round
    case rel=>exact ⟨k + 1,by omega,by go_num,HNO2.out⟩
    case measure=>simp [intOf]; omega
  have hk31:k = 31:=by omega
  have HO:Hid (O = .error (0,30)):=by
   unfold Hid; rw [← hO.out,eG0 l (by rw [← hk31]; exact HNO.out)]
  subst hk31
  go_wp2
  refine aM (g:=g) (t:=65) rfl rfl rfl (eD _ _ _ _ _ _ _ _ _ _ _ _ _ _ HBK.out) Tryz.underlying65 rfl (by kernel_rfl) ?_
  refine ⟨⟨0,?_⟩,by rw [← HG.out]; exact cA BW.out (Nat.le_refl _)⟩
  rw [HO.out,rJ p 0 30 0 (p:Int) (by omega)]
  rfl
theorem hC0 (l:List Nat) (c:Nat) (r:List Nat) (h:l = c :: r) (h1:bO c = false) (h2:aY c = true):eU l =
    if oS ((l.drop (l.takeWhile aY).length).takeWhile cO)∧oZ (l.takeWhile aY)≤lL ((l.drop (l.takeWhile aY).length).takeWhile cO) then .ok (2,(l.drop (l.takeWhile aY).length).takeWhile cO,oZ (l.takeWhile aY),(l.takeWhile aY).length + ((l.drop (l.takeWhile aY).length).takeWhile cO).length) else .error (0,33):=by
 subst h; unfold eU; simp only [h1,h2,if_true,Bool.false_eq_true,if_false]
theorem cU0 (r:List Nat):eU (34 :: r) = match T r with | .ok (out,n)=>.ok (3,out,0,n + 1) | .error (some p,e)=>.error (p + 1,e) | .error (none,e)=>.error (0,e):=by
 unfold eU; simp [bO,aY]; rfl
theorem bE0 (c:Nat) (r:List Nat) (h1:bO c = false) (h2:aY c = false) (h3:¬ c = 34):eU (c :: r) = match kD (c :: r) with | none=>.error (0,30) | some x=>.ok (4,x,0,x.length):=by
 unfold eU; simp only [h1,h2,h3,Bool.false_eq_true,if_false]
 cases kD (c :: r) <;> rfl
theorem hE0 (s:ByteArray) (y:Int) (p:Nat) (hy:y = p) (hp:p < s.size) (h:s.size≤1048576) (w:World) :
    Calls Tryz.prog 80 #[.string s,.int .i64 y] w fun e w'=>(∃ pl,e = .returned (sE0 p (eU ((aD s).drop p)) pl))∧Below w.heap.size w w':=by
 subst hy
 obtain ⟨c,hc⟩:=iQ ((s[p]'hp).toNat)
 have hdrop:=bY s p hp
 rw [hc] at hdrop
 by_cases hl:bO c = true
 · exact kF0 s p c hp h hc hl w
 have hl':bO c = false:=by simpa using hl
 by_cases hd:aY c = true
 · obtain ⟨E,hE⟩:=iQ (p + mU ((aD s).drop p))
   have hEs:E≤s.size:=by rw [← hE]; have:=gK0 ((aD s).drop p); rw [List.length_drop,aK] at this; omega
   obtain ⟨F,hF⟩:=iQ (E + fL ((aD s).drop E))
   have hFs:F≤s.size:=by rw [← hF]; have:=rH ((aD s).drop E); rw [List.length_drop,aK] at this; omega
   obtain ⟨VT,hV⟩:=iQ (oZ (((aD s).drop p).takeWhile aY))
   have hde:((aD s).drop p).drop (((aD s).drop p).takeWhile aY).length = (aD s).drop E:=by
    rw [List.drop_drop,← hE]; rfl
   have hx:s.extract E F = bJ (((aD s).drop E).takeWhile cO):=nR s E F _ (by rw [← hF,Nat.add_sub_cancel_left]; exact eI _ _)
   have hxb:aD (bJ (((aD s).drop E).takeWhile cO)) = ((aD s).drop E).takeWhile cO:=by rw [← hx,eM,← hF,Nat.add_sub_cancel_left]; exact eI _ _
   have hone:=hC0 _ c _ hdrop hl' hd
   rw [hde,hV] at hone
   by_cases hok:iJ (bJ (((aD s).drop E).takeWhile cO)) VT = true
   · have hcond:oS (((aD s).drop E).takeWhile cO) = true∧VT≤lL (((aD s).drop E).takeWhile cO):=by
      unfold iJ at hok; rw [hxb] at hok; simpa using hok
     rw [if_pos hcond] at hone
     refine (cZ0 s p c E F VT _ hp h hc hl' hd hE hV hF hFs hx (sH _ _ _ _ hok) w).mono ?_
     rintro e w' ⟨rfl,hb⟩
     refine ⟨⟨p,?_⟩,hb⟩
     rw [hone,rN p 2 VT _ _ p (F:Int)]
     · rfl
     rw [← hF,← hE]; unfold mU fL; omega
   have hno:iJ (bJ (((aD s).drop E).takeWhile cO)) VT = false:=by simpa using hok
   have hcond:¬ (oS (((aD s).drop E).takeWhile cO) = true∧VT≤lL (((aD s).drop E).takeWhile cO)):=by
    unfold iJ at hok; rw [hxb] at hok; simpa using hok
   rw [if_neg hcond] at hone
   refine (cJ0 s p c E F VT _ hp h hc hl' hd hE hV hF hFs hx (kU _ _ _ _ hno) w).mono ?_
   rintro e w' ⟨rfl,hb⟩
   refine ⟨⟨p,?_⟩,hb⟩
   rw [hone,rJ p 0 33 p (p:Int) (by omega)]
   rfl
 have hd':aY c = false:=by simpa using hd
 by_cases hq:c = 34
 · subst hq
   have hone:=cU0 ((aD s).drop (p + 1))
   rw [← hdrop] at hone
   cases hT:T ((aD s).drop (p + 1)) with
   | ok x =>
    obtain ⟨out,m⟩:=x
    rw [hT] at hone
    refine (zS s p hp h hc out m hT w).mono ?_
    rintro e w' ⟨rfl,hb⟩
    refine ⟨⟨0,?_⟩,hb⟩
    rw [hone,rN p 3 0 (m + 1) out 0 ((p + 1 + m:Nat):Int) (by omega)]
    rfl
   | error x=>?_
   obtain ⟨q,k⟩:=x
   rw [hT] at hone
   cases q with
   | none =>
    refine (wM s p hp h hc k hT w).mono ?_
    rintro e w' ⟨rfl,hb⟩
    refine ⟨⟨0,?_⟩,hb⟩
    rw [hone,rJ p 0 k 0 (p:Int) (by omega)]
   | some q=>?_
   refine (wF s p hp h hc q k hT w).mono ?_
   rintro e w' ⟨rfl,hb⟩
   refine ⟨⟨0,?_⟩,hb⟩
   rw [hone,rJ p (q + 1) k 0 ((p + 1 + q:Nat):Int) (by omega)]
 have hone:=bE0 c ((aD s).drop (p + 1)) hl' hd' hq
 rw [← hdrop] at hone
 rw [hone]
 exact mI0 s p c hp h hc hl' hd' (by simp; omega) _ rfl w
def kY (t:Nat × List Nat × Nat × Nat × Nat):List Value:=[.int .u8 (t.1:Int),.string (bJ t.2.1),.int .u64 (t.2.2.1:Int),.int .i64 (t.2.2.2.1:Int),.int .i64 (t.2.2.2.2:Int)]
def gH (ts:List (Nat × List Nat × Nat × Nat × Nat)):List Value:=ts.flatMap kY
theorem tP (ts:List (Nat × List Nat × Nat × Nat × Nat)):(gH ts).length = ts.length * 5:=by
 induction ts with
 | nil=>rfl
 | cons t r ih=>unfold gH at ih ⊢; rw [List.flatMap_cons,List.length_append,ih,List.length_cons]; show 5 + _ = _; omega
theorem tH (a b:List (Nat × List Nat × Nat × Nat × Nat)):gH (a ++ b) = gH a ++ gH b:=by simp [gH]
theorem eC0 : (Tryz.prog.info? 65).map (fun i=>(i.zero,i.size,i.bytes)) = some (some (.agg #[.int .u8 0,.string ⟨#[]⟩,.int .u64 0,.int .i64 0,.int .i64 0]),5,48):=by kernel_rfl
theorem cS0 {W:World} {ops:Array Oper} {rest:List Oper} {o:Oper} {a:Act} {Q:Exit→Act→World→Prop} (hgd:o.guard = none) (s x:Operand)
    (ho:o.op = .call { callee:=.builtin .append,args:=#[s,x],argTypes:=#[51,51] })
    (base:Nat) (v:Value) (n:Nat) (xs:List (Nat × List Nat × Nat × Nat × Nat)) (hs:a.eval s = v) (hown:W.ownsRow base 65 5 v n (gH xs)) (t:Nat × List Nat × Nat × Nat × Nat)
    (b:Nat) (hx:a.eval x = .slice (some ⟨b,0,none⟩) 1 1) (cs:Array Value) (fr:Nat × Nat) (hb:W.heap[b]? = some (.cells cs 65 fr)) (hcs:cs.toList = kY t)
    (h63:n + 1≤1048576) (hbase:base≤W.heap.size)
    (h:∀ v' w',w'.ownsRow base 65 5 v' (n + 1) (gH (xs ++ [t]))→Below base W w'→W.grownBy w' v.ownBlock→wpList Tryz.prog ops Q rest (a.put o.dst v') w') :
    wpList Tryz.prog ops Q (o :: rest) a W:=by
 obtain ⟨i8,hi,hz0,hz1,hz2⟩:=dS eC0
 refine wpList_append_own _ hgd s x 51 ho base 65 i8 _ 5 48 Tryz.underlying51 hi hz0 hz1 hz2 rfl (by omega) v n (gH xs) hs hown ⟨b,0,none⟩ 1 1 (gH [t]) hx (by rw [tP]; rfl) ?_ ?_ (by unfold maxLen; omega) (by omega) hbase ?_
 · intro j u hu
   have e:gH [t] = cs.toList:=by rw [hcs]; simp [gH]
   rw [e] at hu
   have hadd:(⟨b,0,none⟩:Addr).add j = ⟨b,j,none⟩:=by unfold Addr.add; split <;> simp_all
   rw [hadd,cell_of_row _ b j _ 65 _ hb]
   simpa using hu
 · intro u hu
   simp [gH,kY] at hu
   rcases hu with rfl | rfl | rfl | rfl | rfl <;> rfl
 intro v' w' h1 h2 _
 rw [← tH] at h1
 exact h v' w' h1 ((Below.refl _ _).grown h2 hbase fun k hk=>(hown.lt k hk).1) h2
theorem sG0 : ∀ (f:Nat) (l:List Nat) (o:List Nat) (n:Nat),dV f l = .ok (o,n)→1≤n∧n≤l.length:=by
 intro f
 induction f with
 | zero=>intro l o n h; cases h
 | succ f ih=>?_
 intro l o n h
 cases l with
 | nil=>cases h
 | cons c r=>?_
 unfold dV at h
 split at h
 · cases h
 split at h
 · cases h; simp
 split at h
 · cases hr:dV f r with
   | ok x=>rw [hr] at h; obtain ⟨a,b⟩:=x; simp at h; have:=ih r a b hr; simp; omega
   | error x=>rw [hr] at h; obtain ⟨q,e⟩:=x; cases q <;> cases h
 cases he:jI r with
 | error e=>rw [he] at h; simp only at h; split at h <;> cases h
 | ok x=>?_
 obtain ⟨b,k⟩:=x
 rw [he] at h
 simp only at h
 have hl:=rE he
 cases hr:dV f (r.drop (k - 1)) with
 | ok x =>
  rw [hr] at h; obtain ⟨a,m⟩:=x; simp at h
  have:=ih _ a m hr
  rw [List.length_drop] at this
  simp; omega
 | error x=>rw [hr] at h; obtain ⟨q,e⟩:=x; cases q <;> cases h
theorem uF (l:List Nat) (kd:Nat) (tx:List Nat) (n len:Nat) (h:eU l = .ok (kd,tx,n,len)):1≤len∧len≤l.length:=by
 cases l with
 | nil=>cases h
 | cons c r=>?_
 unfold eU at h
 simp only at h
 split at h
 · rename_i hl
   cases h
   have h1:=rH (c :: r)
   have h2:=qO c r (by simp [cO,hl])
   omega
 split at h
 · rename_i hd
   split at h
   · simp only [Except.ok.injEq,Prod.mk.injEq] at h
     obtain ⟨_,_,_,rfl⟩:=h
     have h1:=gK0 (c :: r)
     have h2:=rT c r hd
     have h3:=rH ((c :: r).drop ((c :: r).takeWhile aY).length)
     rw [List.length_drop] at h3
     unfold mU at h1 h2
     unfold fL at h3
     omega
   cases h
 split at h
 · cases hr:dV (r.length + 1) r with
   | ok x=>rw [hr] at h; obtain ⟨a,b⟩:=x; simp at h; have:=sG0 _ _ _ _ hr; simp; omega
   | error x=>rw [hr] at h; obtain ⟨q,e⟩:=x; cases q <;> cases h
 cases hs:kD (c :: r) with
 | none=>rw [hs] at h; cases h
 | some x=>?_
 rw [hs] at h; simp at h
 unfold kD at hs
 have hm:=List.mem_of_find?_eq_some hs
 have hp:=List.find?_some hs
 have h1:∀ x ∈ fY,1≤x.length:=by decide
 have h2:=h1 x hm
 simp only [dG,decide_eq_true_eq] at hp
 have h3:=congrArg List.length hp
 rw [List.length_take] at h3
 omega
theorem aX0 : ∀ (l:List Nat) (b:Bool),aP b l≤l.length:=by
 intro l
 induction l with
 | nil=>intro b; cases b <;> simp [aP]
 | cons c r ih=>?_
 intro b
 cases b with
 | true=>rw [aP,List.length_cons]; have:=ih (decide (c ≠ 10)); omega
 | false=>?_
 rw [aP,List.length_cons]
 split
 · have:=ih true; omega
 split
 · have:=ih false; omega
 omega
theorem iZ0 : ∀ (f g k at0:Nat) (l:List Nat),l.length < f→l.length < g→iS f k at0 l = iS g k at0 l:=by
 intro f
 induction f with
 | zero=>intro g k a l h; omega
 | succ f ih=>?_
 intro g k at0 l hf hg
 cases g with
 | zero=>omega
 | succ g=>?_
 unfold iS
 simp only
 split
 · rfl
 split
 · rfl
 cases ho:eU (l.drop (aP false l)) with
 | error x=>rfl
 | ok x=>?_
 obtain ⟨kd,tx,n,len⟩:=x
 have hl:=uF _ _ _ _ _ ho
 rw [List.length_drop] at hl
 simp only
 rw [ih g (k + 1) (at0 + aP false l + len) (l.drop (aP false l + len)) (by rw [List.length_drop]; omega) (by rw [List.length_drop]; omega)]
def rI (ts:List (Nat × List Nat × Nat × Nat × Nat)) (x:Except (Nat × Nat) (List (Nat × List Nat × Nat × Nat × Nat))):Except (Nat × Nat) (List (Nat × List Nat × Nat × Nat × Nat)) :=
 match x with
 | .ok r=>.ok (ts ++ r)
 | .error e=>.error e
theorem bJ0 (x:Except (Nat × Nat) (List (Nat × List Nat × Nat × Nat × Nat))):rI [] x = x:=by cases x <;> rfl
theorem dP0 (a b:List (Nat × List Nat × Nat × Nat × Nat)) (x:Except (Nat × Nat) (List (Nat × List Nat × Nat × Nat × Nat))):rI a (rI b x) = rI (a ++ b) x:=by
 cases x <;> simp [rI]
def TK (k at0:Nat) (l:List Nat):Except (Nat × Nat) (List (Nat × List Nat × Nat × Nat × Nat)):=iS (l.length + 1) k at0 l
theorem gO0 (k at0:Nat) (l:List Nat) (h:l.drop (aP false l) = []):TK k at0 l = .ok []:=by
 unfold TK iS; simp only; rw [if_pos h]
theorem dJ0 (k at0:Nat) (l:List Nat) (h:¬ l.drop (aP false l) = []) (hk:k = 32768):TK k at0 l = .error (at0 + aP false l,3):=by
 unfold TK iS; simp only; rw [if_neg h,if_pos hk]
theorem rK0 (k at0:Nat) (l:List Nat) (p e:Nat) (h:¬ l.drop (aP false l) = []) (hk:¬ k = 32768) (ho:eU (l.drop (aP false l)) = .error (p,e)):TK k at0 l = .error (at0 + aP false l + p,e):=by
 unfold TK iS; simp only; rw [if_neg h,if_neg hk,ho]
theorem yL0 (k at0:Nat) (l:List Nat) (kd:Nat) (tx:List Nat) (n len:Nat) (h:¬ l.drop (aP false l) = []) (hk:¬ k = 32768) (ho:eU (l.drop (aP false l)) = .ok (kd,tx,n,len)) :
    TK k at0 l = rI [(kd,tx,n,at0 + aP false l,at0 + aP false l + len)] (TK (k + 1) (at0 + aP false l + len) (l.drop (aP false l + len))):=by
 have hl:=uF _ _ _ _ _ ho
 rw [List.length_drop] at hl
 unfold TK
 conv=>lhs; unfold iS
 simp only
 rw [if_neg h,if_neg hk,ho]
 simp only
 rw [iZ0 l.length ((l.drop (aP false l + len)).length + 1) _ _ _ (by rw [List.length_drop]; omega) (by omega)]
 cases iS ((l.drop (aP false l + len)).length + 1) (k + 1) (at0 + aP false l + len) (l.drop (aP false l + len)) <;> rfl
theorem tU0 : ∀ (f:Nat) (l:List Nat) (q:Option Nat) (e:Nat),dV f l = .error (q,e)→e = 31∨e = 32:=by
 intro f
 induction f with
 | zero=>intro l q e h; cases h; simp
 | succ f ih=>?_
 intro l q e h
 cases l with
 | nil=>cases h; simp
 | cons c r=>?_
 unfold dV at h
 split at h
 · cases h; simp
 split at h
 · cases h
 split at h
 · cases hr:dV f r with
   | ok x=>rw [hr] at h; obtain ⟨a,b⟩:=x; cases h
   | error x=>?_
   rw [hr] at h; obtain ⟨q',e'⟩:=x
   have:=ih r q' e' hr
   cases q' <;> (cases h; exact this)
 cases he:jI r with
 | error e' =>
  rw [he] at h; simp only at h
  have:=sJ he
  split at h <;> cases h
  · simp
  exact this
 | ok x=>?_
 obtain ⟨b,k⟩:=x
 rw [he] at h
 simp only at h
 cases hr:dV f (r.drop (k - 1)) with
 | ok x=>rw [hr] at h; obtain ⟨a,m⟩:=x; cases h
 | error x=>?_
 rw [hr] at h; obtain ⟨q',e'⟩:=x
 have:=ih _ q' e' hr
 cases q' <;> (cases h; exact this)
theorem hO0 (l:List Nat) (p e:Nat) (h:eU l = .error (p,e)):30≤e∧e≤33:=by
 cases l with
 | nil=>cases h; omega
 | cons c r=>?_
 unfold eU at h
 simp only at h
 split at h
 · cases h
 split at h
 · split at h
   · cases h
   cases h; omega
 split at h
 · cases hr:dV (r.length + 1) r with
   | ok x=>rw [hr] at h; obtain ⟨a,b⟩:=x; cases h
   | error x=>?_
   rw [hr] at h; obtain ⟨q,e'⟩:=x
   have:=tU0 _ _ _ _ hr
   cases q <;> (cases h; omega)
 cases hs:kD (c :: r) with
 | none=>rw [hs] at h; cases h; omega
 | some x=>rw [hs] at h; cases h
theorem uN {w:World} {B n:Nat} {v:Value} {xs:List Value} (h:w.ownsRow B 65 5 v n xs):∃ ao cap,v = .slice ao n cap:=by
 rcases h.2 with ⟨h1,h2⟩ | ⟨g,cap,cur,h1,_⟩
 · exact ⟨none,0,by rw [h1,h2]⟩
 exact ⟨_,cap,h1⟩
theorem sS0 {w w':World} {B n:Nat} {v:Value} {xs:List Value} (h:w.ownsRow B 65 5 v n xs) (hb:Below w.heap.size w w'):w'.ownsRow B 65 5 v n xs:=by
 refine ⟨h.1,?_⟩
 rcases h.2 with hn | ⟨g,cap,cur,hv,hB,hg,rest⟩
 · exact .inl hn
 exact .inr ⟨g,cap,cur,hv,hB,by rw [hb.block g (Array.getElem?_eq_some_iff.1 hg).1]; exact hg,rest⟩
theorem zU (w:World) (A B:Obj):((w.alloc A).alloc B).heap[w.heap.size]? = some A:=by
 have hs:(w.alloc A).heap.size = w.heap.size + 1:=Array.size_push _
 have h1:((w.alloc A).heap.push B)[w.heap.size]? = (w.alloc A).heap[w.heap.size]?:=by rw [Array.getElem?_push,if_neg (by omega)]
 exact h1.trans (heap_alloc_new w A)
theorem cE0 (w:World) (A B:Obj):((w.alloc A).alloc B).heap.size = w.heap.size + 2:=by
 have hs:(w.alloc A).heap.size = w.heap.size + 1:=Array.size_push _
 have h2:((w.alloc A).heap.push B).size = (w.alloc A).heap.size + 1:=Array.size_push _
 exact h2.trans (by omega)
def rR (w:World) (x:Except (Nat × Nat) (List (Nat × List Nat × Nat × Nat × Nat))) (e:Ending) (w':World):Prop :=
 match x with
 | .ok ts=>∃ v,e = .returned (.tuple #[v,.int .i64 0,.int .i64 0])∧w'.ownsRow w.heap.size 65 5 v ts.length (gH ts)∧Below w.heap.size w w'
 | .error (p,k)=>e = .returned (.tuple #[.slice none 0 0,.int .i64 (p:Int),.int .i64 (k:Int)])∧Below w.heap.size w w'
def zS0 (s:ByteArray) (w:World) (B:Nat) (TT:Except (Nat × Nat) (List (Nat × List Nat × Nat × Nat × Nat))) (v i:Value) (wr:World):Prop :=
 ∃ (at0 P:Nat) (ts:List (Nat × List Nat × Nat × Nat × Nat)),at0≤s.size∧P = at0 + aP false ((aD s).drop at0)∧i = .int .i64 P∧ts.length≤32768∧wr.ownsRow B 65 5 v ts.length (gH ts)∧Below B w wr ∧
  rI ts (TK ts.length at0 ((aD s).drop at0)) = TT
theorem pY {w w':World} {p k:Nat} {x:Except (Nat × Nat) (List (Nat × List Nat × Nat × Nat × Nat))} {e:Ending} (hx:Hid (x = .error (p,k))) (he:e = .returned (.tuple #[.slice none 0 0,.int .i64 (p:Int),.int .i64 (k:Int)])) (hb:Below w.heap.size w w'):rR w x e w':=by
 rw [hx.out]; exact ⟨he,hb⟩
theorem kF (s:ByteArray) (h:s.size≤1048576) (TT:Except (Nat × Nat) (List (Nat × List Nat × Nat × Nat × Nat))) (HTT:Hid (gC (aD s) = TT)) (w:World) :
    Calls Tryz.prog 38 #[.string s] w fun e w'=>rR w TT e w':=by
 by_cases hbig:65536 < s.size
 · have HX:Hid (TT = .error (0,3)):=by unfold Hid; rw [← HTT.out]; unfold gC; rw [if_pos (by rw [aK]; exact hbig)]
   go_enter Tryz.func38,Tryz.ntmps38
   go_wp2
   go_ret3
   exact pY HX rfl (Below.refl _ _)
 obtain ⟨B,hB⟩:∃ B,B = w.heap.size:=⟨_,rfl⟩
 have HB:=hI hB
 clear hB
 have HT0:Hid (TK 0 0 ((aD s).drop 0) = TT):=by
  unfold Hid; rw [← HTT.out]; unfold gC; rw [if_neg (by rw [aK]; exact hbig),List.drop_zero]; rfl
 obtain ⟨P0,hP0⟩:∃ P0,Hid (0 + aP false ((aD s).drop 0) = P0):=⟨_,rfl⟩
 go_enter Tryz.func38,Tryz.ntmps38
 go_wp2_with fail
 refine (xV s 0 0 P0 rfl (by omega) h hP0.out _).mono ?_
 rintro e wx ⟨rfl,rfl⟩
 go_wp2_with fail
 go_loopw [5,6] (fun v i wr=>zS0 s w B TT v i wr) (fun _ i _=>s.size - (intOf i).toNat)
 case atStart=>exact ⟨0,P0,[],by omega,hP0.out.symm,rfl,by simp,World.ownsRow_nil _ _ _ _,Below.refl _ _,by rw [bJ0]; exact HT0.out⟩
 case round =>
  obtain ⟨at0,P,ts,hat,hP,rfl,hts,hown,hbel,htk⟩:=hrel
  have HP:=hI hP
  have hPs:P≤s.size:=by rw [hP]; have:=aX0 ((aD s).drop at0) false; rw [List.length_drop,aK] at this; omega
  have hdd:((aD s).drop at0).drop (aP false ((aD s).drop at0)) = (aD s).drop P:=by rw [List.drop_drop,← hP]
  have HDD:=hI hdd
  have HTK:=hI htk
  have BL:=hI hbel
  have hbw:B≤wr.heap.size:=by rw [HB.out]; exact hbel.size
  obtain ⟨ao,cap,rfl⟩:=uN hown
  have OW:=hI hown
  obtain ⟨n,hn⟩:∃ n,Hid (ts.length = n):=⟨_,rfl⟩
  clear hP htk hbel hown hdd
  rw [hn.out] at OW hts ⊢
  by_cases hlt:P < s.size
  · have hne:¬ ((aD s).drop at0).drop (aP false ((aD s).drop at0)) = []:=by
     rw [HDD.out,bY s P hlt]; simp
    have HNE:=hI hne
    clear hne
    by_cases hfull:n = 32768
    · have HX:Hid (TT = .error (P,3)):=by
       unfold Hid; rw [← HTK.out,dJ0 _ _ _ HNE.out (by rw [hn.out]; exact hfull),← HP.out]; rfl
      subst hfull
      go_wp2
      go_ret3
      exact pY HX rfl (by rw [← HB.out]; exact BL.out)
    have hf0:((n:Int) == 32768) = false:=by simp; omega
    cases hO:eU ((aD s).drop P) with
    | error x =>
     obtain ⟨q,k⟩:=x
     have hk:=hO0 _ _ _ hO
     have HX:Hid (TT = .error (P + q,k)):=by
      unfold Hid; rw [← HTK.out,rK0 _ _ _ q k HNE.out (by rw [hn.out]; exact hfull) (by rw [HDD.out]; exact hO),← HP.out]; rfl
     have HO:=hI hO
     have hk0:((k:Int) != 0) = true:=by simp; omega
     obtain ⟨M,hM⟩:∃ M:Int,Hid (((P + q:Nat):Int) = M):=⟨_,rfl⟩
     clear hO hfull
     go_wp2_with fail
     refine (hE0 s P P rfl hlt h _).mono ?_
     rw [HO.out]
     rintro e w2 ⟨⟨pl,rfl⟩,hb2⟩
     rw [rJ P q k pl M hM.out.symm]
     have HB2:Hid (Below B w w2):=BL.out.trans (hb2.mono hbw)
     have hsz2:B≤w2.heap.size:=Nat.le_trans hbw hb2.size
     clear hb2
     go_wp2
     go_ret3
     exact pY HX (by rw [hM.out]; rfl) (by rw [← HB.out]; exact HB2.out.alloc hsz2 _)
    | ok x=>?_
    obtain ⟨kd,tx,nn,len⟩:=x
    have hl:=uF _ _ _ _ _ hO
    rw [List.length_drop,aK] at hl
    have HX:Hid (rI (ts ++ [(kd,tx,nn,P,P + len)]) (TK (n + 1) (P + len) ((aD s).drop (P + len))) = TT):=by
     unfold Hid
     rw [← HTK.out,yL0 _ _ _ kd tx nn len HNE.out (by rw [hn.out]; exact hfull) (by rw [HDD.out]; exact hO),dP0,← HP.out,List.drop_drop,← Nat.add_assoc,← HP.out,hn.out]
    have HO:=hI hO
    obtain ⟨M,hM⟩:∃ M:Nat,Hid (P + len = M):=⟨_,rfl⟩
    have hMs:P < M∧M≤s.size:=by rw [← hM.out]; omega
    obtain ⟨X,hX⟩:∃ X,Hid (bJ tx = X):=⟨_,rfl⟩
    obtain ⟨P2,hP2⟩:∃ P2,Hid (M + aP false ((aD s).drop M) = P2):=⟨_,rfl⟩
    clear hO hl
    go_wp2_with fail
    refine (hE0 s P P rfl hlt h _).mono ?_
    rw [HO.out]
    rintro e w2 ⟨⟨pl,rfl⟩,hb2⟩
    rw [rN P kd nn len tx pl (M:Int) (by rw [hM.out]),hX.out]
    have HB2:Hid (Below B w w2):=BL.out.trans (hb2.mono hbw)
    have hsz2:B≤w2.heap.size:=Nat.le_trans hbw hb2.size
    have OW2:=sS0 OW.out hb2
    have hlt2:∀ k,(Value.slice ao n cap).ownBlock = some k→k < w2.heap.size:=fun k hk=>Nat.lt_of_lt_of_le (OW.out.lt k hk).2 hb2.size
    have OW3:=hI OW2
    have HLT:=hI hlt2
    clear hb2 OW2 hlt2
    have HCS:Hid ([Value.int .u8 (kd:Int),.string X,.int .u64 (nn:Int),.int .i64 (P:Int),.int .i64 (M:Int)] = kY (kd,tx,nn,P,P + len)):=by
     unfold Hid kY; rw [hX.out,hM.out]
    have hbase:B≤((w2.alloc (.cells #[.int .u8 (kd:Int),.string X,.int .u64 (nn:Int),.int .i64 (P:Int),.int .i64 (M:Int)] 65)).alloc (.cells #[.int .u8 (kd:Int),.string X,.int .u64 (nn:Int),.int .i64 (P:Int),.int .i64 (M:Int)] 65)).heap.size:=by
     rw [cE0]; omega
    have HBS:Hid _:=hbase
    clear hbase
    go_wp2_with (at_builtin; refine cS0 rfl (.tmp 37) (.tmp 39) rfl B _ n ts rfl ((OW3.out.alloc _).alloc _) (kd,tx,nn,P,P + len) (w2.heap.size + 1) rfl _ _ (heap_alloc2_new w2 _ _) HCS.out (by omega) HBS.out ?_; intro v1 w3 own1 bel1 gr1; have hc4:w3.cell? ⟨w2.heap.size,4,none⟩ = some (.int .i64 (M:Int)):=gr1.cell (cell_of_row _ w2.heap.size 4 _ _ _ (zU w2 _ _)) (fun q=>Nat.lt_irrefl _ (HLT.out _ q.symm)); have OW4:Hid (w3.ownsRow B 65 5 v1 (n + 1) (gH (ts ++ [(kd,tx,nn,P,P + len)]))):=own1; have HB3:Hid (Below B w w3):=((HB2.out.alloc hsz2 _).alloc (by rw [show (w2.alloc _).heap.size = w2.heap.size + 1 from Array.size_push _]; omega) _).trans bel1; clear own1 bel1 gr1)
    refine (xV s M M P2 rfl (by omega) h hP2.out _).mono ?_
    rintro e wx ⟨rfl,rfl⟩
    have HPP:=hI hP2.out.symm
    have hP2b:M≤P2:=by rw [← hP2.out]; omega
    go_wp2
    go_roundw
    case rel =>
     refine ⟨M,P2,ts ++ [(kd,tx,nn,P,P + len)],by omega,HPP.out,rfl,by rw [List.length_append,hn.out]; simp; omega,?_,HB3.out,?_⟩
     · rw [List.length_append,hn.out]; exact OW4.out
     rw [List.length_append,hn.out,← hM.out]; exact HX.out
    case measure=>simp [intOf]; omega
  have hPe:P = s.size:=by omega
  have HX:Hid (TT = .ok ts):=by
   unfold Hid; rw [← HTK.out,gO0 _ _ _ (by rw [HDD.out,hPe,hH])]; simp [rI]
  go_wp2
  go_ret3
  rw [HX.out]
  exact ⟨_,rfl,by rw [← HB.out,hn.out]; exact OW.out,by rw [← HB.out]; exact BL.out⟩
end Go.Proofs.YtnipenijihkgdaaGreatDoor
